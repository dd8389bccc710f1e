/- Sign, Arity and BySign of package ops, in every memory. Plain: what is read has no more terms than words; what a word's sign says at a level. The parser's small readers of operations: levelOf, unarySign; what a word's sign says. Rows of terms in memory; bracketed and plain of the parser, over a read -/
import Derived.Test.YtlpdjfimefjmcaaGreatDoorProg
import Derived.WalkKit
import Derived.Deep.DeepCutAuto
import Derived.Deep.CutBlock
import Derived.LoopTactic
import Derived.Lib.Strings
import Derived.Lib.Hide
import Derived.Test.YtlpdjfimefjmcaaGreatDoorFlLevelsPR2
import Derived.Test.YtlpdjfimefjmcaaGreatDoorFlLevelsPR22
import Derived.Maps.AppendAt
namespace Go.Proofs.YtlpdjfimefjmcaaGreatDoor.Q
open Go Go.RowKit
theorem exit_then {K:Act→World→Prop} {Q:Exit→Act→World→Prop} {n:Nat} {a:Act} {w:World} (h:Q (.exit n) a w):Exit.then K Q (.exit n) a w:=h
theorem exit_ne {Q:Exit→Act→World→Prop} {m n:Nat} {a:Act} {w:World} (hn:¬ n=m) (h:Q (.exit n) a w):Exit.inBlock m Q (.exit n) a w:=by
  show (if n=m then Q .normal a w else Q (.exit n) a w)
  rw [if_neg hn];exact h
theorem exit_eq {Q:Exit→Act→World→Prop} {n:Nat} {a:Act} {w:World} (h:Q .normal a w):Exit.inBlock n Q (.exit n) a w:=by
  show (if n=n then Q .normal a w else Q (.exit n) a w)
  rw [if_pos rfl];exact h
def signL:Nat→List UInt8
  | 1=>[43]
  | 2=>[45]
  | 3=>[42]
  | 4=>[47]
  | 5=>[37]
  | 6=>[38]
  | 7=>[124]
  | 8=>[94]
  | 9=>[60,60]
  | 10=>[62,62]
  | 11=>[61,61]
  | 12=>[33,61]
  | 13=>[60]
  | 14=>[60,61]
  | 15=>[45]
  | 16=>[33]
  | 17=>[126]
  | _=>[]
def signV (op:Int):ByteArray:=⟨(if 1≤op∧op≤17 then signL op.toNat else []).toArray⟩
def arV (op:Int):Int:=if 1≤op∧op≤14 then 2 else if 15≤op∧op≤17 then 1 else 0
set_option maxRecDepth 100000 in
theorem sign_1 (w:World):Calls Tryz.prog 207 #[.int .i64 1] w fun e w'=>e=.returned (.string (⟨#[43]⟩:ByteArray))∧w=w':=by
  go_enter Tryz.func207,Tryz.ntmps207
  go_upto_region 2 with (fail)
  iterate 10 go_step
  refine wp_cond_split rfl (fun h=>?_) (fun h=>absurd h (by decide))
  apply wp_exit
  repeat (first | refine exit_then ?_ | refine exit_ne (by decide) ?_)
  refine exit_eq ?_
  go_wp2
  go_ret
  exact ⟨rfl,rfl⟩
set_option maxRecDepth 100000 in
theorem sign_2 (w:World):Calls Tryz.prog 207 #[.int .i64 2] w fun e w'=>e=.returned (.string (⟨#[45]⟩:ByteArray))∧w=w':=by
  go_enter Tryz.func207,Tryz.ntmps207
  go_upto_region 3 with (fail)
  iterate 10 go_step
  refine wp_cond_split rfl (fun h=>?_) (fun h=>absurd h (by decide))
  apply wp_exit
  repeat (first | refine exit_then ?_ | refine exit_ne (by decide) ?_)
  refine exit_eq ?_
  go_wp2
  go_ret
  exact ⟨rfl,rfl⟩
set_option maxRecDepth 100000 in
theorem sign_3 (w:World):Calls Tryz.prog 207 #[.int .i64 3] w fun e w'=>e=.returned (.string (⟨#[42]⟩:ByteArray))∧w=w':=by
  go_enter Tryz.func207,Tryz.ntmps207
  go_upto_region 5 with (fail)
  iterate 10 go_step
  refine wp_cond_split rfl (fun h=>?_) (fun h=>absurd h (by decide))
  apply wp_exit
  repeat (first | refine exit_then ?_ | refine exit_ne (by decide) ?_)
  refine exit_eq ?_
  go_wp2
  go_ret
  exact ⟨rfl,rfl⟩
set_option maxRecDepth 100000 in
theorem sign_4 (w:World):Calls Tryz.prog 207 #[.int .i64 4] w fun e w'=>e=.returned (.string (⟨#[47]⟩:ByteArray))∧w=w':=by
  go_enter Tryz.func207,Tryz.ntmps207
  go_upto_region 6 with (fail)
  iterate 10 go_step
  refine wp_cond_split rfl (fun h=>?_) (fun h=>absurd h (by decide))
  apply wp_exit
  repeat (first | refine exit_then ?_ | refine exit_ne (by decide) ?_)
  refine exit_eq ?_
  go_wp2
  go_ret
  exact ⟨rfl,rfl⟩
set_option maxRecDepth 100000 in
theorem sign_5 (w:World):Calls Tryz.prog 207 #[.int .i64 5] w fun e w'=>e=.returned (.string (⟨#[37]⟩:ByteArray))∧w=w':=by
  go_enter Tryz.func207,Tryz.ntmps207
  go_upto_region 7 with (fail)
  iterate 10 go_step
  refine wp_cond_split rfl (fun h=>?_) (fun h=>absurd h (by decide))
  apply wp_exit
  repeat (first | refine exit_then ?_ | refine exit_ne (by decide) ?_)
  refine exit_eq ?_
  go_wp2
  go_ret
  exact ⟨rfl,rfl⟩
set_option maxRecDepth 100000 in
theorem sign_6 (w:World):Calls Tryz.prog 207 #[.int .i64 6] w fun e w'=>e=.returned (.string (⟨#[38]⟩:ByteArray))∧w=w':=by
  go_enter Tryz.func207,Tryz.ntmps207
  go_upto_region 8 with (fail)
  iterate 10 go_step
  refine wp_cond_split rfl (fun h=>?_) (fun h=>absurd h (by decide))
  apply wp_exit
  repeat (first | refine exit_then ?_ | refine exit_ne (by decide) ?_)
  refine exit_eq ?_
  go_wp2
  go_ret
  exact ⟨rfl,rfl⟩
set_option maxRecDepth 100000 in
theorem sign_7 (w:World):Calls Tryz.prog 207 #[.int .i64 7] w fun e w'=>e=.returned (.string (⟨#[124]⟩:ByteArray))∧w=w':=by
  go_enter Tryz.func207,Tryz.ntmps207
  go_upto_region 9 with (fail)
  iterate 10 go_step
  refine wp_cond_split rfl (fun h=>?_) (fun h=>absurd h (by decide))
  apply wp_exit
  repeat (first | refine exit_then ?_ | refine exit_ne (by decide) ?_)
  refine exit_eq ?_
  go_wp2
  go_ret
  exact ⟨rfl,rfl⟩
set_option maxRecDepth 100000 in
theorem sign_8 (w:World):Calls Tryz.prog 207 #[.int .i64 8] w fun e w'=>e=.returned (.string (⟨#[94]⟩:ByteArray))∧w=w':=by
  go_enter Tryz.func207,Tryz.ntmps207
  go_upto_region 10 with (fail)
  iterate 10 go_step
  refine wp_cond_split rfl (fun h=>?_) (fun h=>absurd h (by decide))
  apply wp_exit
  repeat (first | refine exit_then ?_ | refine exit_ne (by decide) ?_)
  refine exit_eq ?_
  go_wp2
  go_ret
  exact ⟨rfl,rfl⟩
set_option maxRecDepth 100000 in
theorem sign_9 (w:World):Calls Tryz.prog 207 #[.int .i64 9] w fun e w'=>e=.returned (.string (⟨#[60,60]⟩:ByteArray))∧w=w':=by
  go_enter Tryz.func207,Tryz.ntmps207
  go_upto_region 11 with (fail)
  iterate 10 go_step
  refine wp_cond_split rfl (fun h=>?_) (fun h=>absurd h (by decide))
  apply wp_exit
  repeat (first | refine exit_then ?_ | refine exit_ne (by decide) ?_)
  refine exit_eq ?_
  go_wp2
  go_ret
  exact ⟨rfl,rfl⟩
set_option maxRecDepth 100000 in
theorem sign_10 (w:World):Calls Tryz.prog 207 #[.int .i64 10] w fun e w'=>e=.returned (.string (⟨#[62,62]⟩:ByteArray))∧w=w':=by
  go_enter Tryz.func207,Tryz.ntmps207
  go_upto_region 12 with (fail)
  iterate 10 go_step
  refine wp_cond_split rfl (fun h=>?_) (fun h=>absurd h (by decide))
  apply wp_exit
  repeat (first | refine exit_then ?_ | refine exit_ne (by decide) ?_)
  refine exit_eq ?_
  go_wp2
  go_ret
  exact ⟨rfl,rfl⟩
set_option maxRecDepth 100000 in
theorem sign_11 (w:World):Calls Tryz.prog 207 #[.int .i64 11] w fun e w'=>e=.returned (.string (⟨#[61,61]⟩:ByteArray))∧w=w':=by
  go_enter Tryz.func207,Tryz.ntmps207
  go_upto_region 13 with (fail)
  iterate 10 go_step
  refine wp_cond_split rfl (fun h=>?_) (fun h=>absurd h (by decide))
  apply wp_exit
  repeat (first | refine exit_then ?_ | refine exit_ne (by decide) ?_)
  refine exit_eq ?_
  go_wp2
  go_ret
  exact ⟨rfl,rfl⟩
set_option maxRecDepth 100000 in
theorem sign_12 (w:World):Calls Tryz.prog 207 #[.int .i64 12] w fun e w'=>e=.returned (.string (⟨#[33,61]⟩:ByteArray))∧w=w':=by
  go_enter Tryz.func207,Tryz.ntmps207
  go_upto_region 14 with (fail)
  iterate 10 go_step
  refine wp_cond_split rfl (fun h=>?_) (fun h=>absurd h (by decide))
  apply wp_exit
  repeat (first | refine exit_then ?_ | refine exit_ne (by decide) ?_)
  refine exit_eq ?_
  go_wp2
  go_ret
  exact ⟨rfl,rfl⟩
set_option maxRecDepth 100000 in
theorem sign_13 (w:World):Calls Tryz.prog 207 #[.int .i64 13] w fun e w'=>e=.returned (.string (⟨#[60]⟩:ByteArray))∧w=w':=by
  go_enter Tryz.func207,Tryz.ntmps207
  go_upto_region 15 with (fail)
  iterate 10 go_step
  refine wp_cond_split rfl (fun h=>?_) (fun h=>absurd h (by decide))
  apply wp_exit
  repeat (first | refine exit_then ?_ | refine exit_ne (by decide) ?_)
  refine exit_eq ?_
  go_wp2
  go_ret
  exact ⟨rfl,rfl⟩
set_option maxRecDepth 100000 in
theorem sign_14 (w:World):Calls Tryz.prog 207 #[.int .i64 14] w fun e w'=>e=.returned (.string (⟨#[60,61]⟩:ByteArray))∧w=w':=by
  go_enter Tryz.func207,Tryz.ntmps207
  go_upto_region 16 with (fail)
  iterate 10 go_step
  refine wp_cond_split rfl (fun h=>?_) (fun h=>absurd h (by decide))
  apply wp_exit
  repeat (first | refine exit_then ?_ | refine exit_ne (by decide) ?_)
  refine exit_eq ?_
  go_wp2
  go_ret
  exact ⟨rfl,rfl⟩
set_option maxRecDepth 100000 in
theorem sign_15 (w:World):Calls Tryz.prog 207 #[.int .i64 15] w fun e w'=>e=.returned (.string (⟨#[45]⟩:ByteArray))∧w=w':=by
  go_enter Tryz.func207,Tryz.ntmps207
  go_upto_region 4 with (fail)
  iterate 10 go_step
  refine wp_cond_split rfl (fun h=>?_) (fun h=>absurd h (by decide))
  apply wp_exit
  repeat (first | refine exit_then ?_ | refine exit_ne (by decide) ?_)
  refine exit_eq ?_
  go_wp2
  go_ret
  exact ⟨rfl,rfl⟩
set_option maxRecDepth 100000 in
theorem sign_16 (w:World):Calls Tryz.prog 207 #[.int .i64 16] w fun e w'=>e=.returned (.string (⟨#[33]⟩:ByteArray))∧w=w':=by
  go_enter Tryz.func207,Tryz.ntmps207
  go_upto_region 17 with (fail)
  iterate 10 go_step
  refine wp_cond_split rfl (fun h=>?_) (fun h=>absurd h (by decide))
  apply wp_exit
  repeat (first | refine exit_then ?_ | refine exit_ne (by decide) ?_)
  refine exit_eq ?_
  go_wp2
  go_ret
  exact ⟨rfl,rfl⟩
set_option maxRecDepth 100000 in
theorem sign_17 (w:World):Calls Tryz.prog 207 #[.int .i64 17] w fun e w'=>e=.returned (.string (⟨#[126]⟩:ByteArray))∧w=w':=by
  go_enter Tryz.func207,Tryz.ntmps207
  go_upto_region 18 with (fail)
  iterate 10 go_step
  refine wp_cond_split rfl (fun h=>?_) (fun h=>absurd h (by decide))
  apply wp_exit
  repeat (first | refine exit_then ?_ | refine exit_ne (by decide) ?_)
  refine exit_eq ?_
  go_wp2
  go_ret
  exact ⟨rfl,rfl⟩
set_option maxRecDepth 100000 in
theorem sign_none (op:Int) (hop:op<1 ∨ 17<op) (w:World):Calls Tryz.prog 207 #[.int .i64 op] w fun e w'=>e=.returned (.string (⟨#[]⟩:ByteArray))∧w=w':=by
  have c1:(op == 1)=false:=by simp;omega
  have c2:(op == 2)=false:=by simp;omega
  have c3:(op == 3)=false:=by simp;omega
  have c4:(op == 4)=false:=by simp;omega
  have c5:(op == 5)=false:=by simp;omega
  have c6:(op == 6)=false:=by simp;omega
  have c7:(op == 7)=false:=by simp;omega
  have c8:(op == 8)=false:=by simp;omega
  have c9:(op == 9)=false:=by simp;omega
  have c10:(op == 10)=false:=by simp;omega
  have c11:(op == 11)=false:=by simp;omega
  have c12:(op == 12)=false:=by simp;omega
  have c13:(op == 13)=false:=by simp;omega
  have c14:(op == 14)=false:=by simp;omega
  have c15:(op == 15)=false:=by simp;omega
  have c16:(op == 16)=false:=by simp;omega
  have c17:(op == 17)=false:=by simp;omega
  clear hop
  go_enter Tryz.func207,Tryz.ntmps207
  go_upto_region 18 with (fail)
  iterate 10 go_step
  refine wp_cond_split rfl (fun h=>absurd h (by decide)) (fun h=>?_)
  go_step
  go_step
  go_step
  apply wp_exit
  repeat (first | refine exit_then ?_ | refine exit_ne (by decide) ?_)
  refine exit_eq ?_
  go_wp2
  go_ret
  exact ⟨rfl,rfl⟩
theorem sign_cases (op:Int):op=1 ∨ op=2 ∨ op=3 ∨ op=4 ∨ op=5 ∨ op=6 ∨ op=7 ∨ op=8 ∨ op=9 ∨ op=10 ∨ op=11 ∨ op=12 ∨ op=13 ∨ op=14 ∨ op=15 ∨ op=16 ∨ op=17 ∨ (op<1 ∨ 17<op):=by omega
theorem sign_any (op:Int) (w:World):Calls Tryz.prog 207 #[.int .i64 op] w fun e w'=>e=.returned (.string (signV op))∧w=w':=by
  rcases sign_cases op with rfl | rfl | rfl | rfl | rfl | rfl | rfl | rfl | rfl | rfl | rfl | rfl | rfl | rfl | rfl | rfl | rfl | hop
  · exact sign_1 w
  · exact sign_2 w
  · exact sign_3 w
  · exact sign_4 w
  · exact sign_5 w
  · exact sign_6 w
  · exact sign_7 w
  · exact sign_8 w
  · exact sign_9 w
  · exact sign_10 w
  · exact sign_11 w
  · exact sign_12 w
  · exact sign_13 w
  · exact sign_14 w
  · exact sign_15 w
  · exact sign_16 w
  · exact sign_17 w
  · rw [show signV op=(⟨#[]⟩:ByteArray) from by unfold signV;rw [if_neg (by omega)]];exact sign_none op hop w
set_option maxRecDepth 100000 in
theorem arity_ops (op:Int) (w:World):Calls Tryz.prog 208 #[.int .i64 op] w fun e w'=>e=.returned (.int .i64 (arV op))∧w=w':=by
  unfold arV
  by_cases h1:1≤op∧op≤14
  · rw [if_pos h1]
    obtain ⟨h1,h2⟩:=h1
    go_enter Tryz.func208,Tryz.ntmps208
    go_wp2
    go_ret
    exact ⟨rfl,rfl⟩
  · rw [if_neg h1]
    by_cases h2:15≤op∧op≤17
    · rw [if_pos h2]
      obtain ⟨h2,h3⟩:=h2
      have h4:¬ op≤14:=by omega
      clear h1
      go_enter Tryz.func208,Tryz.ntmps208
      go_wp2
      go_ret
      exact ⟨rfl,rfl⟩
    · rw [if_neg h2]
      rcases (show op<1 ∨ 17<op by omega) with h | h
      all_goals
        clear h1 h2
        go_enter Tryz.func208,Tryz.ntmps208
        go_wp2
        go_ret
        exact ⟨rfl,rfl⟩
def hitS (s:ByteArray) (ar:Int) (k:Nat):Bool:=((signV k).toList == s.toList) && (arV k == ar)
def First (s:ByteArray) (ar:Int) (n:Nat):Prop:=1≤n∧n≤18∧(∀ j,1≤j→j<n→hitS s ar j=false)∧(n=18 ∨ hitS s ar n=true)
def bsV (n:Nat):Value:=if n=18 then .tuple #[.int .i64 0,.bool false] else .tuple #[.int .i64 n,.bool true]
theorem first_from (s:ByteArray) (ar:Int):∀ (d n:Nat),n+d=18→1≤n→(∀ j,1≤j→j<n→hitS s ar j=false)→∃ m,First s ar m:=by
  intro d
  induction d with
  | zero=>intro n hn h1 h;exact ⟨n,h1,by omega,h,.inl (by omega)⟩
  | succ d ih =>
    intro n hn h1 h
    cases hh:hitS s ar n with
    | true=>exact ⟨n,h1,by omega,h,.inr hh⟩
    | false=>exact ih (n+1) (by omega) (by omega) (fun j hj hjn=>if e:j=n then by rw [e];exact hh else h j hj (by omega))
theorem first_any (s:ByteArray) (ar:Int):∃ m,First s ar m:=first_from s ar 17 1 rfl (Nat.le_refl _) (fun j h1 h2=>by omega)
theorem miss (s:ByteArray) (ar:Int) (k:Nat) (h:hitS s ar k=false):((signV k).toList == s.toList)=false ∨ (((signV k).toList == s.toList)=true∧(arV k == ar)=false):=by
  unfold hitS at h
  rw [Bool.and_eq_false_iff] at h
  cases h1:((signV k).toList == s.toList) with
  | false=>exact .inl rfl
  | true=>rw [h1] at h;exact .inr ⟨rfl,h.resolve_left (by simp)⟩
theorem hitS_both (s:ByteArray) (ar:Int) (k:Nat) (h:hitS s ar k=true):((signV k).toList == s.toList)=true∧(arV k == ar)=true:=by
  unfold hitS at h
  simpa using h
set_option maxRecDepth 100000 in
set_option maxHeartbeats 1000000 in
theorem bysign_ops (s:ByteArray) (ar:Int) (n:Nat) (hn:First s ar n) (w:World) :
    Calls Tryz.prog 200 #[.string s,.int .i64 ar] w fun e w'=>e=.returned (bsV n)∧w=w':=by
  obtain ⟨h1,h18,hno,hyes⟩:=hn
  have HNO:=Lib.hid hno
  have HY:=Lib.hid hyes
  clear hno hyes
  go_enter Tryz.func200,Tryz.ntmps200
  go_wp2
  go_loop [6] (fun x=>∃ k:Nat,1≤k∧k≤n∧x=.int .i64 k) (fun x=>18 - (intOf x).toNat)
  case atStart=>exact ⟨1,Nat.le_refl _,h1,rfl⟩
  case round =>
    obtain ⟨k,hk,hkn,rfl⟩:=hrel
    have hs:=sign_any k w
    have ha:=arity_ops k w
    by_cases hlt:k<n
    · have hm:=HNO.out k hk hlt
      have hk17:(k:Int)≤17:=by omega
      rcases miss s ar k hm with hm1 | ⟨hm1,hm2⟩
      · clear hm
        go_wp2_with (first | (go_at_call 207;refine hs.mono ?_;rintro e w' ⟨rfl,rfl⟩) | (go_at_call 208;refine ha.mono ?_;rintro e w' ⟨rfl,rfl⟩))
        exact ⟨⟨k+1,by omega,by omega,by go_num⟩,by simp [intOf];omega⟩
      · clear hm
        go_wp2_with (first | (go_at_call 207;refine hs.mono ?_;rintro e w' ⟨rfl,rfl⟩) | (go_at_call 208;refine ha.mono ?_;rintro e w' ⟨rfl,rfl⟩))
        exact ⟨⟨k+1,by omega,by omega,by go_num⟩,by simp [intOf];omega⟩
    · obtain rfl:k=n:=by omega
      by_cases h:k=18
      · subst h
        clear HNO HY
        go_wp2
        go_ret2
        exact ⟨rfl,rfl⟩
      · obtain ⟨hm1,hm2⟩:=hitS_both s ar k (HY.out.resolve_left h)
        have hk17:(k:Int)≤17:=by omega
        have hV:=Lib.hid (show bsV k=.tuple #[.int .i64 k,.bool true] from if_neg h)
        clear HNO HY
        go_wp2_with (first | (go_at_call 207;refine hs.mono ?_;rintro e w' ⟨rfl,rfl⟩) | (go_at_call 208;refine ha.mono ?_;rintro e w' ⟨rfl,rfl⟩))
        go_ret2
        exact ⟨by rw [hV.out];rfl,rfl⟩
end Go.Proofs.YtlpdjfimefjmcaaGreatDoor.Q
namespace Go.Proofs.Syn
def Cnt (p:Nat→R (List Tm)):Prop:=∀ i l j,p i=.ok (l,j)→l.length+i≤j
section
variable {T:Nat→Option K} {F:Nat}
theorem loop_cnt {p:Nat→R (List Tm)} (hp:Cnt p) (ms:List (List Nat × Nat)):∀ (f:Nat) (l:List Tm) (i:Nat) (l':List Tm) (j:Nat),loopF T p ms f l i=.ok (l',j)→l'.length+i≤l.length+j
  | 0,_,_,_,_,h=>by cases h
  | f+1,l,i,l',j,h=>by
    rw [loopF] at h
    split at h
    · injection h with h;injection h with h1 h2
      subst h1;subst h2;exact Nat.le_refl _
    · obtain ⟨r,i2,h1,h2⟩:=R.on_ok h
      have a:=hp _ _ _ h1
      have b:=loop_cnt hp ms f _ i2 l' j h2
      simp only [List.length_append,List.length_singleton] at b
      omega
theorem tower_cnt {u:Nat→R (List Tm)} (hu:Cnt u):∀ k,Cnt (tower T F u k)
  | 0=>fun i l j h=>hu i l j h
  | k+1=>fun i l j h=>by
    rw [tower] at h
    obtain ⟨l1,i1,h1,h2⟩:=R.on_ok h
    have a:=tower_cnt hu k _ _ _ h1
    have b:=loop_cnt (tower_cnt hu k) _ _ _ _ _ _ h2
    omega
theorem unOps_cnt:∀ (f i:Nat) (l:List Nat) (j:Nat),unOps T f i=.ok (l,j)→l.length+i=j
  | 0,_,_,_,h=>by cases h
  | f+1,i,l,j,h=>by
    rw [unOps] at h
    split at h
    · injection h with h;injection h with h1 h2
      subst h1;subst h2;simp
    · obtain ⟨l1,i1,h1,h2⟩:=R.on_ok h
      injection h2 with h2;injection h2 with h3 h4
      subst h3;subst h4
      have:=unOps_cnt f _ _ _ h1
      simp only [List.length_cons];omega
theorem brack_cnt {e:Option (Nat→R (List Tm))} (he:∀ p,e=some p→Cnt p) {g:List Tm→List Tm} (hg:∀ l,(g l).length≤l.length+1) {s:List Nat} {i j:Nat} {l:List Tm} (h:brack T e g s i=.ok (l,j)):l.length+i≤j:=by
  unfold brack at h
  split at h
  · cases h
  · obtain ⟨l1,i1,h1,h⟩:=R.on_ok h
    obtain ⟨_,i2,h2,h⟩:=R.on_ok h
    injection h with h;injection h with h3 h4
    subst h3;subst h4
    have a:=he _ rfl _ _ _ h1
    have b:=(want_ok h2).2
    have:=hg l1
    omega
theorem atom_cnt {e:Option (Nat→R (List Tm))} (he:∀ p,e=some p→Cnt p):Cnt (atom T e):=by
  intro i l j h
  unfold atom at h
  split at h
  · cases h
  · split at h
    · injection h with h;injection h with h3 h4
      subst h3;subst h4;simp;omega
    · split at h
      · exact brack_cnt he (fun l=>Nat.le_succ _) h
      · unfold atomN at h
        obtain ⟨s,i1,h1,h⟩:=R.on_ok h
        have a:=(name_ok h1).2.1
        split at h
        · have:=brack_cnt he (g:=fun l=>l++[⟨3,0,s⟩]) (fun l=>by simp) h
          omega
        · injection h with h;injection h with h3 h4
          subst h3;subst h4;simp;omega
theorem unary_cnt {e:Option (Nat→R (List Tm))} (he:∀ p,e=some p→Cnt p):Cnt (unary T F e):=by
  intro i l j h
  rw [unary_atom] at h
  obtain ⟨ops,i1,h1,h⟩:=R.on_ok h
  obtain ⟨l1,i2,h2,h⟩:=R.on_ok h
  injection h with h;injection h with h3 h4
  subst h3;subst h4
  have a:=unOps_cnt _ _ _ _ h1
  have b:=atom_cnt he _ _ _ h2
  simp only [List.length_append,List.length_map,List.length_reverse]
  omega
theorem expr_cnt:∀ d,Cnt (exprD T F d)
  | 0=>tower_cnt (unary_cnt (fun p h=>by cases h)) 6
  | d+1=>tower_cnt (unary_cnt (fun p h=>by cases h;exact expr_cnt d)) 6
end
theorem Fit.pos {α:Type} {n:Nat} {r:R α} {x:α} {j:Nat} (h:Fit n r) (e:r=.ok (x,j)):j≤n:=by rw [e] at h;exact h
theorem Fit.no99 {α:Type} {n j:Nat} {r:R α} (h:Fit n r) (e:r=.error (99,j)):False:=by
  rw [e] at h
  rcases h.1 with h | h | h | h <;> cases h
def lvlOf (op:Nat):Nat :=
  if 11≤op∧op≤14 then 0 else if op=7 ∨ op=8 then 1 else if op=6 then 2 else if op=9 ∨ op=10 then 3 else if op=1 ∨ op=2 then 4 else 5
def sgn:Nat→List Nat
  | 1=>[43] | 2=>[45] | 3=>[42] | 4=>[47] | 5=>[37] | 6=>[38] | 7=>[124] | 8=>[94] | 9=>[60,60] | 10=>[62,62] | 11=>[61,61] | 12=>[33,61] | 13=>[60] | 14=>[60,61]
  | 15=>[45] | 16=>[33] | 17=>[126] | _=>[]
theorem find_congr {α:Type} {p q:α→Bool}:∀ {l:List α},(∀ m ∈ l,p m=q m)→l.find? p=l.find? q
  | [],_=>rfl
  | m :: l,h=>by
    rw [List.find?_cons,List.find?_cons,h m (List.mem_cons_self ..),find_congr (fun x hx=>h x (List.mem_cons_of_mem _ hx))]
def opTx (ms:List (List Nat × Nat)) (t:List Nat):Nat:=match ms.find? fun m=>t == m.1 with
  | some m=>m.2
  | none=>0
theorem opTx_sgn (n:Nat) (h1:1≤n) (h2:n≤14) (l:Nat) (hl:l≤5):opTx (marks l) (sgn n)=if lvlOf n=l then n else 0:=by
  have:∀ n:Fin 15,∀ l:Fin 6,1≤n.val→opTx (marks l.val) (sgn n.val)=if lvlOf n.val=l.val then n.val else 0:=by decide
  exact this ⟨n,by omega⟩ ⟨l,by omega⟩ h1
theorem opTx_none (ms:List (List Nat × Nat)) (t:List Nat) (h:∀ m ∈ ms,t ≠ m.1):opTx ms t=0:=by
  unfold opTx
  rw [List.find?_eq_none.2 (fun m hm=>by simpa using h m hm)]
theorem marks_sgn (l:Nat):∀ m ∈ marks l,sgn m.2=m.1∧1≤m.2∧m.2≤14:=by
  have:(marks l).all (fun m=>decide (sgn m.2=m.1∧1≤m.2∧m.2≤14))=true:=by
    unfold marks
    split <;> decide
  intro m hm
  simpa using List.all_eq_true.1 this m hm
def unL:List (List Nat × Nat):=[([45],15),([33],16),([126],17)]
theorem opTx_un (n:Nat) (h1:15≤n) (h2:n≤17):opTx unL (sgn n)=n:=by
  rcases (show n=15 ∨ n=16 ∨ n=17 by omega) with rfl | rfl | rfl <;> decide
end Go.Proofs.Syn
namespace Go.Proofs.YtlpdjfimefjmcaaGreatDoor.Q
open Go Go.RowKit Go.Proofs.Mm
theorem bl_sign (n:Nat) (h1:1≤n) (h2:n≤17):bl (signV n)=Syn.sgn n:=by
  have:∀ n:Fin 18,1≤n.val→bl (signV n.val)=Syn.sgn n.val:=by decide
  exact this ⟨n,by omega⟩ h1
theorem hitS_iff (t:ByteArray) (ar:Int) (n:Nat) (h1:1≤n) (h2:n≤17):hitS t ar n=true ↔ bl t=Syn.sgn n∧arV n=ar:=by
  unfold hitS
  rw [eq_text,bl_sign n h1 h2,Bool.and_eq_true,beq_iff_eq,beq_iff_eq,eq_comm]
theorem bysign2 (t:ByteArray):∃ n,First t 2 n∧((n=18∧∀ l,Syn.opTx (Syn.marks l) (bl t)=0) ∨ (1≤n∧n≤14∧∀ l,l≤5→Syn.opTx (Syn.marks l) (bl t)=if Syn.lvlOf n=l then n else 0)):=by
  obtain ⟨n,h1,h18,hno,hyes⟩:=first_any t 2
  refine ⟨n,⟨h1,h18,hno,hyes⟩,?_⟩
  by_cases hn:n=18
  · refine .inl ⟨hn,fun l=>Syn.opTx_none _ _ fun m hm e=>?_⟩
    obtain ⟨a,b,c⟩:=Syn.marks_sgn l m hm
    have:=hno m.2 b (by omega)
    have h2:=(hitS_iff t 2 m.2 b (by omega)).2 ⟨by rw [e,a],by unfold arV;rw [if_pos (by omega)]⟩
    rw [this] at h2;cases h2
  · obtain ⟨a,b⟩:=(hitS_iff t 2 n h1 (by omega)).1 (hyes.resolve_left hn)
    have hn14:n≤14:=by
      unfold arV at b
      split at b
      · omega
      · split at b <;> omega
    exact .inr ⟨h1,hn14,fun l hl=>by rw [a];exact Syn.opTx_sgn n h1 hn14 l hl⟩
theorem bysign1 (t:ByteArray):∃ n,First t 1 n∧((n=18∧Syn.opTx Syn.unL (bl t)=0) ∨ (15≤n∧n≤17∧Syn.opTx Syn.unL (bl t)=n)):=by
  obtain ⟨n,h1,h18,hno,hyes⟩:=first_any t 1
  refine ⟨n,⟨h1,h18,hno,hyes⟩,?_⟩
  by_cases hn:n=18
  · refine .inl ⟨hn,Syn.opTx_none _ _ fun m hm e=>?_⟩
    have hm2:Syn.sgn m.2=m.1∧15≤m.2∧m.2≤17:=by
      have:Syn.unL.all (fun m=>decide (Syn.sgn m.2=m.1∧15≤m.2∧m.2≤17))=true:=by decide
      simpa using List.all_eq_true.1 this m hm
    obtain ⟨a,b,c⟩:=hm2
    have:=hno m.2 (by omega) (by omega)
    have h2:=(hitS_iff t 1 m.2 (by omega) c).2 ⟨by rw [e,a],by unfold arV;rw [if_neg (by omega),if_pos (by omega)]⟩
    rw [this] at h2;cases h2
  · obtain ⟨a,b⟩:=(hitS_iff t 1 n h1 (by omega)).1 (hyes.resolve_left hn)
    have hn15:15≤n:=by
      unfold arV at b
      split at b
      · omega
      · split at b <;> omega
    exact .inr ⟨hn15,by omega,by rw [a];exact Syn.opTx_un n hn15 (by omega)⟩
theorem opOf_text {ys:List It} (hw:Ws ys) (len i:Nat) {ms:List (List Nat × Nat)} (hm:∀ m ∈ ms,Mk m.1=true):Syn.opOf (Tk ys) ms i=Syn.opTx ms (bl (tk ys len i).t):=by
  unfold Syn.opOf Syn.opTx
  rw [Syn.find_congr (q:=fun m=>bl (tk ys len i).t == m.1) (fun m hx=>(is_text hw len i (hm m hx)).symm)]
  rfl
theorem mk_marks (l:Nat):∀ m ∈ Syn.marks l,Mk m.1=true:=by
  have:(Syn.marks l).all (fun m=>Mk m.1)=true:=by
    unfold Syn.marks
    split <;> decide
  exact List.all_eq_true.1 this
theorem mk_un:∀ m ∈ Syn.unL,Mk m.1=true:=by decide
set_option maxRecDepth 100000 in
theorem levelOf_any (n:Nat) (h1:1≤n) (h2:n≤14) (w:World):Calls Tryz.prog 201 #[.int .i64 (n:Nat)] w fun e w'=>e=.returned (.int .i64 ((Syn.lvlOf n:Nat):Int))∧w=w':=by
  rcases (show n=1 ∨ n=2 ∨ n=3 ∨ n=4 ∨ n=5 ∨ n=6 ∨ n=7 ∨ n=8 ∨ n=9 ∨ n=10 ∨ n=11 ∨ n=12 ∨ n=13 ∨ n=14 by omega) with rfl | rfl | rfl | rfl | rfl | rfl | rfl | rfl | rfl | rfl | rfl | rfl | rfl | rfl
  all_goals
    clear h1 h2
    go_enter Tryz.func201,Tryz.ntmps201
    go_wp2
    go_ret
    exact ⟨rfl,rfl⟩
section
variable {ys:List It} {len bp bw i:Nat} {vp:Value} {w:World}
set_option maxRecDepth 100000 in
theorem unarySign_no (hw:Ws ys) (h:PS ys len bp bw vp w i) (ho:Syn.opOf (Tk ys) Syn.unL i=0) :
    Calls Tryz.prog 202 #[.pointer (some ⟨bp,0,none⟩)] w fun e w'=>e=.returned (.tuple #[.int .i64 0,.bool false])∧w=w':=by
  obtain ⟨n,hn,hc⟩:=bysign1 (tk ys len i).t
  rw [opOf_text hw len i mk_un] at ho
  have hn18:n=18:=by rcases hc with hc | hc <;> omega
  subst hn18
  have hb:=bysign_ops _ _ _ hn w
  rw [show bsV 18=.tuple #[.int .i64 0,.bool false] from rfl] at hb
  obtain ⟨c,h0,hf,hcc,hc2,h1,h2,h3,h4⟩:=h.raw
  have hle:=h.le
  have hm:0<ys.length+1 - i:=by omega
  clear h hf hcc hc2 h1 h3 h4 hc hn ho
  generalize ys.length+1 - i=m at *
  generalize 4 * i=o at *
  go_enter Tryz.func202,Tryz.ntmps202
  go_wp2_with (go_at_call 200;refine hb.mono ?_;rintro e w' ⟨rfl,rfl⟩)
  go_ret2
  exact ⟨rfl,rfl⟩
set_option maxRecDepth 100000 in
theorem unarySign_yes (hw:Ws ys) (h:PS ys len bp bw vp w i) (n:Nat) (hn0:n ≠ 0) (ho:Syn.opOf (Tk ys) Syn.unL i=n) (hi:i<ys.length) :
    Calls Tryz.prog 202 #[.pointer (some ⟨bp,0,none⟩)] w fun e w'=>e=.returned (.tuple #[.int .i64 (n:Nat),.bool true])∧Chg (fun k=>k=bp) w w'∧PS ys len bp bw vp w' (i+1):=by
  obtain ⟨n',hn,hc⟩:=bysign1 (tk ys len i).t
  rw [opOf_text hw len i mk_un] at ho
  have hn18:n'=n∧n≤17:=by rcases hc with hc | hc <;> omega
  obtain ⟨rfl,hn17⟩:=hn18
  have hb:=bysign_ops _ _ _ hn w
  rw [show bsV n'=.tuple #[.int .i64 (n':Nat),.bool true] from if_neg (by omega)] at hb
  have ht:=Lib.hid (take_ps h hi)
  obtain ⟨c,h0,hf,hcc,hc2,h1,h2,h3,h4⟩:=h.raw
  have hle:=h.le
  have hm:0<ys.length+1 - i:=by omega
  clear h hf hcc hc2 h1 h3 h4 hc hn ho hn0
  generalize ys.length+1 - i=m at *
  generalize 4 * i=o at *
  go_enter Tryz.func202,Tryz.ntmps202
  go_wp2_with (go_at_call 200;refine hb.mono ?_;rintro e w' ⟨rfl,rfl⟩)
  go_at_call 140
  refine ht.out.mono ?_
  rintro e w' ⟨rfl,hC,hP⟩
  go_wp2
  go_ret2
  exact ⟨rfl,hC,hP⟩
end
end Go.Proofs.YtlpdjfimefjmcaaGreatDoor.Q
namespace Go.Proofs.YtlpdjfimefjmcaaGreatDoor.Q
open Go Go.RowKit Go.Proofs.Mm
def tmC (t:Syn.Tm):List Value:=[.int .i64 (t.kind:Int),.int .i64 (t.value:Int),.string (sb t.name)]
def tmCells (l:List Syn.Tm):List Value:=l.flatMap tmC
theorem tmCells_app (l m:List Syn.Tm):tmCells (l++m)=tmCells l++tmCells m:=by unfold tmCells;rw [List.flatMap_append]
theorem tmCells_one (t:Syn.Tm):tmCells [t]=tmC t:=by simp [tmCells]
theorem infoTm:∃ i,Tryz.prog.info? 140=some i∧i.zero=some (.agg #[.int .i64 0,.int .i64 0,.string ⟨#[]⟩])∧i.size=3∧i.bytes=32:=by
  have h:(Tryz.prog.info? 140).map (fun i=>(i.zero,i.size,i.bytes))=some (some (.agg #[.int .i64 0,.int .i64 0,.string ⟨#[]⟩]),3,32):=by kernel_rfl
  cases hi:Tryz.prog.info? 140 with
  | none=>rw [hi] at h;cases h
  | some i =>
    rw [hi] at h
    simp only [Option.map_some,Option.some.injEq,Prod.mk.injEq] at h
    obtain ⟨e1,e2,e3⟩:=h
    exact ⟨i,rfl,e1,e2,e3⟩
def TR (w:World) (v:Value) (l:List Syn.Tm):Prop:=w.ownsRow 0 140 3 v l.length (tmCells l)
theorem own_type {w:World} {B n size:Nat} {E:TypeId} {v:Value} {xs:List Value} (h:w.ownsRow B E size v n xs) {k:Nat} (hk:v.ownBlock=some k):∃ cur,w.heap[k]?=some (.cells cur E (0,0)):=by
  rcases h.2 with ⟨rfl,_⟩ | ⟨g,cap,cur,rfl,_,hg,_⟩
  · cases hk
  · obtain rfl:g=k:=by simpa [Value.ownBlock] using hk
    exact ⟨cur,hg⟩
theorem own_chg {w w':World} {B n size:Nat} {E:TypeId} {v:Value} {xs:List Value} (h:w.ownsRow B E size v n xs) {S:Nat→Prop} (hc:Chg S w w') (hn:∀ k,v.ownBlock=some k→¬ S k):w'.ownsRow B E size v n xs:=by
  refine ⟨h.1,?_⟩
  rcases h.2 with h0 | ⟨g,cap,cur,rfl,hb,hg,rest⟩
  · exact .inl h0
  · exact .inr ⟨g,cap,cur,rfl,hb,hc.heap hg (hn g rfl),rest⟩
theorem own_shape {w:World} {B n size:Nat} {E:TypeId} {v:Value} {xs:List Value} (h:w.ownsRow B E size v n xs):∃ q c,v=.slice q n c:=by
  rcases h.2 with ⟨rfl,rfl⟩ | ⟨g,cap,cur,rfl,_⟩
  · exact ⟨_,_,rfl⟩
  · exact ⟨_,_,rfl⟩
def TS (bp:Nat) (v:Value):Nat→Prop:=fun k=>k=bp ∨ v.ownBlock=some k
def TOk (ys:List It) (len bp bw:Nat) (vp:Value) (l0:List Syn.Tm) (v:Value) (w:World) (l:List Syn.Tm) (j:Nat) (e:Ending) (w':World):Prop :=
  ∃ v',e=.returned v'∧TR w' v' (l0++l)∧PS ys len bp bw vp w' j∧∀ k,v'.ownBlock=some k→v.ownBlock=some k ∨ w.heap.size≤k
def RdT (ys:List It) (len bp bw:Nat) (vp:Value) (K:FuncId) (args:Value→Array Value) (Inv:World→Prop) (r:Nat→Syn.R (List Syn.Tm)):Prop :=
  ∀ w i v l0,Inv w→PS ys len bp bw vp w i→TR w v l0→l0.length+(ys.length - i)≤131072→Calls Tryz.prog K (args v) w (Ret ys len (TS bp v) w (r i) (TOk ys len bp bw vp l0 v w))
section
variable {ys:List It} {len bp bw i:Nat} {vp:Value} {w:World}
theorem ps_not_row (h:PS ys len bp bw vp w i) {v:Value} {l:List Syn.Tm} (hr:TR w v l):v.ownBlock ≠ some bp∧v.ownBlock ≠ some bw:=by
  obtain ⟨⟨c,a1,_⟩,⟨arr,b1,_⟩,_,_⟩:=h
  constructor
  · intro e
    obtain ⟨cur,h2⟩:=own_type hr e
    have:=a1.symm.trans h2
    simp at this
  · intro e
    obtain ⟨cur,h2⟩:=own_type hr e
    have:=b1.symm.trans h2
    simp at this
theorem tr_next (h:PS ys len bp bw vp w i) {v:Value} {l:List Syn.Tm} (hr:TR w v l) {w':World} (hc:Chg (fun k=>k=bp) w w'):TR w' v l :=
  own_chg hr hc (fun k hk e=>by subst e;exact (ps_not_row h hr).1 hk)
theorem ts_le {v:Value} {w w':World} (hc:Chg (fun k=>k=bp) w w'):Chg (TS bp v) w w':=hc.mono fun _ e=>.inl (.inl e)
theorem tr_app (h:PS ys len bp bw vp w i) {v v':Value} {l:List Syn.Tm} (hr:TR w v l) {t:Syn.Tm} {w9:World} (T:TypeId)
    (hown:w9.ownsRow 0 140 3 v' (l.length+1) (tmCells l++tmC t)) (hg:(w.alloc (.cells (tmC t).toArray T)).grownBy w9 v.ownBlock) (hat:v'.ownBlock=v.ownBlock ∨ v'.ownBlock=some (w.heap.size+1)) :
    TR w9 v' (l++[t])∧PS ys len bp bw vp w9 i∧Chg (TS bp v) w w9∧∀ k,v'.ownBlock=some k→v.ownBlock=some k ∨ w.heap.size≤k:=by
  have hC:Chg (TS bp v) w w9:=((Chg.refl _ w).alloc _).then (grown_chg hg (fun k hk=>.inl (.inr hk)))
  have hC2:Chg (fun k=>v.ownBlock=some k) w w9:=((Chg.refl _ w).alloc _).then (grown_chg hg (fun k hk=>.inl hk))
  refine ⟨?_,h.chg hC2 (ps_not_row h hr).1 (ps_not_row h hr).2,hC,fun k hk=>?_⟩
  · unfold TR
    rw [List.length_append,List.length_singleton,tmCells_app,tmCells_one]
    exact hown
  · rcases hat with e | e
    · rw [e] at hk;exact .inl hk
    · rw [e] at hk
      simp only [Option.some.injEq] at hk
      exact .inr (by omega)
theorem tm_new (w:World) (t:Syn.Tm) (T:TypeId):∀ j u,(tmC t)[j]?=some u→(w.alloc (.cells (tmC t).toArray T)).cell? ((⟨w.heap.size,0,none⟩:Addr).add j)=some u:=row_new w (tmC t) T
theorem tm_one (t:Syn.Tm):∀ u ∈ tmC t,u.oneCell'=true:=by
  intro u hu
  unfold tmC at hu
  rcases List.mem_cons.1 hu with rfl | hu
  · rfl
  rcases List.mem_cons.1 hu with rfl | hu
  · rfl
  rcases List.mem_cons.1 hu with rfl | hu
  · rfl
  · exact absurd hu (by simp)
theorem bracketed_deep (h:PS ys len bp bw vp w i) (s:ByteArray) (v:Value) (S:Nat→Prop) :
    Calls Tryz.prog 209 #[.pointer (some ⟨bp,0,none⟩),.string s,v,.int .i64 12] w fun e w'=>e=.panicked (gv 51 ((tk ys len i).a:Nat))∧Chg S w w':=by
  go_enter Tryz.func209,Tryz.ntmps209
  go_wp2_with (go_at_call 138;refine (fail_ps h 51 S).mono ?_;rintro e w' ⟨rfl,hc⟩)
  exact ⟨rfl,rfl,hc⟩
set_option maxRecDepth 100000 in
theorem bracketed_some (hw:Ws ys) (h:PS ys len bp bw vp w i) (hi:i<ys.length) {d:Nat} (hd:d<12) {r:Nat→Syn.R (List Syn.Tm)} (s:ByteArray) (hs:Mk (bl s)=true)
    (hR:RdT ys len bp bw vp 184 (fun v=>#[.pointer (some ⟨bp,0,none⟩),v,.int .i64 ((d:Int)+1)]) (fun _=>True) r) {v:Value} {l0:List Syn.Tm} (hr:TR w v l0) (hb:l0.length+(ys.length - i)≤131072) :
    Calls Tryz.prog 209 #[.pointer (some ⟨bp,0,none⟩),.string s,v,.int .i64 (d:Int)] w (Ret ys len (TS bp v) w (Syn.brack (Tk ys) (some r) (fun l=>l) (bl s) i) (TOk ys len bp bw vp l0 v w)):=by
  have hne:((d:Int) == 12)=false:=by simp;omega
  have ht:=take_ps h hi
  have HR:=Lib.hid hR
  clear hR
  cases hri:r (i+1) with
  | error q =>
    obtain ⟨er,k⟩:=q
    have hB:Syn.brack (Tk ys) (some r) (fun l=>l) (bl s) i=.error (er,k):=by unfold Syn.brack;simp only [hri,Syn.R.on]
    rw [hB]
    clear hB
    have HRI:=Lib.hid hri
    clear hri
    go_enter Tryz.func209,Tryz.ntmps209
    go_wp2_with (go_at_call 140;refine ht.mono ?_;rintro e w1 ⟨rfl,hc1,hp1⟩)
    have hcall:=HR.out w1 (i+1) v l0 trivial hp1 (tr_next h hr hc1) (by omega)
    rw [HRI.out] at hcall
    go_at_call 184
    refine hcall.mono ?_
    rintro e w2 ⟨hc2,rfl⟩
    exact ⟨rfl,(ts_le hc1).then hc2,rfl⟩
  | ok q =>
    obtain ⟨l,j⟩:=q
    by_cases hx:Syn.is (Tk ys) j (bl s)=true
    · have hj:j<ys.length:=by
        rcases Nat.lt_or_ge j ys.length with q | q
        · exact q
        · rw [Syn.is,Tk_none q] at hx;cases hx
      have hB:Syn.brack (Tk ys) (some r) (fun l=>l) (bl s) i=.ok (l,j+1):=by
        unfold Syn.brack
        simp only [hri,Syn.R.on]
        rw [show Syn.want (Tk ys) j (bl s)=.ok ((),j+1) from if_pos hx]
      rw [hB]
      clear hB
      have HRI:=Lib.hid hri
      have hx2:((tk ys len j).t.toList == s.toList)=true:=by rw [eq_text,is_text hw len j hs];exact hx
      have HX:=Lib.hid hx2
      clear hri hx hx2
      go_enter Tryz.func209,Tryz.ntmps209
      go_wp2_with (go_at_call 140;refine ht.mono ?_;rintro e w1 ⟨rfl,hc1,hp1⟩)
      have hcall:=HR.out w1 (i+1) v l0 trivial hp1 (tr_next h hr hc1) (by omega)
      rw [HRI.out] at hcall
      have hsz:=hc1.size
      go_at_call 184
      refine hcall.mono ?_
      rintro e w2 ⟨hc2,v',rfl,hr2,hp2,hob⟩
      have hwt:=want_yes hp2 hj s HX.out
      go_wp2_with (go_at_call 143;refine hwt.mono ?_;rintro e w3 ⟨rfl,hc3,hp3⟩)
      go_ret
      exact ⟨((ts_le hc1).then hc2).then (ts_le hc3),v',rfl,tr_next hp2 hr2 hc3,hp3,fun k hk=>by rcases hob k hk with q | q <;> first | exact .inl q | exact .inr (by omega)⟩
    · have hB:Syn.brack (Tk ys) (some r) (fun l=>l) (bl s) i=.error (50,j):=by
        unfold Syn.brack
        simp only [hri,Syn.R.on]
        rw [show Syn.want (Tk ys) j (bl s)=.error (50,j) from if_neg hx]
      rw [hB]
      clear hB
      have HRI:=Lib.hid hri
      have hx2:((tk ys len j).t.toList == s.toList)=false:=by rw [eq_text,is_text hw len j hs];simpa using hx
      have HX:=Lib.hid hx2
      clear hri hx hx2
      go_enter Tryz.func209,Tryz.ntmps209
      go_wp2_with (go_at_call 140;refine ht.mono ?_;rintro e w1 ⟨rfl,hc1,hp1⟩)
      have hcall:=HR.out w1 (i+1) v l0 trivial hp1 (tr_next h hr hc1) (by omega)
      rw [HRI.out] at hcall
      go_at_call 184
      refine hcall.mono ?_
      rintro e w2 ⟨hc2,v',rfl,hr2,hp2,hob⟩
      have hwt:=want_no hp2 s HX.out (TS bp v)
      go_wp2_with (go_at_call 143;refine hwt.mono ?_;rintro e w3 ⟨rfl,hc3⟩)
      exact ⟨rfl,((ts_le hc1).then hc2).then (hc3.mono fun _ q=>.inl q),rfl⟩
end
end Go.Proofs.YtlpdjfimefjmcaaGreatDoor.Q
namespace Go.Proofs.YtlpdjfimefjmcaaGreatDoor.Q
open Go Go.RowKit Go.Proofs.Mm
def EOk (ys:List It) (len bp bw:Nat) (vp:Value) (d:Nat) (e:Option (Nat→Syn.R (List Syn.Tm))):Prop :=
  (d=12∧e=none) ∨ (d<12∧∃ r,e=some r∧Syn.Cnt r∧Syn.FitP ys.length r∧RdT ys len bp bw vp 184 (fun v=>#[.pointer (some ⟨bp,0,none⟩),v,.int .i64 ((d:Int)+1)]) (fun _=>True) r)
theorem EOk.cnt {ys:List It} {len bp bw d:Nat} {vp:Value} {e:Option (Nat→Syn.R (List Syn.Tm))} (h:EOk ys len bp bw vp d e):∀ p,e=some p→Syn.Cnt p:=by
  rcases h with ⟨_,rfl⟩ | ⟨_,r,rfl,h,_⟩
  · intro p hp;cases hp
  · intro p hp;cases hp;exact h
theorem EOk.fit {ys:List It} {len bp bw d:Nat} {vp:Value} {e:Option (Nat→Syn.R (List Syn.Tm))} (h:EOk ys len bp bw vp d e):∀ p,e=some p→Syn.FitP ys.length p:=by
  rcases h with ⟨_,rfl⟩ | ⟨_,r,rfl,_,h,_⟩
  · intro p hp;cases hp
  · intro p hp;cases hp;exact h
theorem tk_nones (ys:List It):∀ i,ys.length≤i→Tk ys i=none:=fun _ h=>Tk_none h
theorem lt_of_is {ys:List It} {i:Nat} {s:List Nat} (h:Syn.is (Tk ys) i s=true):i<ys.length:=Syn.is_lt (tk_nones ys) h
theorem lt_of_named {ys:List It} {i:Nat} (h:Syn.named (Tk ys) i=true):i<ys.length:=Syn.named_lt (tk_nones ys) h
theorem brack_g {T:Nat→Option Syn.K} (e:Option (Nat→Syn.R (List Syn.Tm))) (g:List Syn.Tm→List Syn.Tm) (s:List Nat) (i:Nat) :
    Syn.brack T e g s i=(Syn.brack T e (fun l=>l) s i).on fun l j=>.ok (g l,j):=by
  unfold Syn.brack
  cases e with
  | none=>rfl
  | some r =>
    simp only
    cases r (i+1) with
    | error q=>rfl
    | ok q =>
      simp only [Syn.R.on]
      cases Syn.want T q.2 s with
      | error q=>rfl
      | ok q=>rfl
def isNum (T:Nat→Option Syn.K) (i:Nat):Bool:=match T i with | some k=>k.kind == 3 | none=>false
theorem num_kind (ys:List It) (len i:Nat):(((tk ys len i).k:Int) == 3)=isNum (Tk ys) i:=by
  by_cases h:i<ys.length
  · unfold isNum;rw [Tk_some (len:=len) h];simp only [keyOf];rw [Bool.eq_iff_iff,beq_iff_eq,beq_iff_eq];omega
  · rw [tk_end ys len (by omega)];unfold isNum;rw [Tk_none (by omega)];rfl
theorem lt_of_num {ys:List It} {i:Nat} (h:isNum (Tk ys) i=true):i<ys.length:=by
  rcases Nat.lt_or_ge i ys.length with q | q
  · exact q
  · rw [isNum,Tk_none q] at h;cases h
theorem atom_num {ys:List It} (len:Nat) {i:Nat} (e:Option (Nat→Syn.R (List Syn.Tm))) (h:isNum (Tk ys) i=true):Syn.atom (Tk ys) e i=.ok ([⟨1,(tk ys len i).v,[]⟩],i+1):=by
  have hi:=lt_of_num h
  unfold isNum at h
  unfold Syn.atom
  rw [Tk_some (len:=len) hi] at h ⊢
  exact if_pos (by simpa using h)
theorem atom_rest {ys:List It} {i:Nat} (e:Option (Nat→Syn.R (List Syn.Tm))) (h:isNum (Tk ys) i=false):Syn.atom (Tk ys) e i=if Syn.is (Tk ys) i [40] then Syn.brack (Tk ys) e (fun l=>l) [41] i else Syn.atomN (Tk ys) e i:=by
  unfold isNum at h
  unfold Syn.atom
  cases hT:Tk ys i with
  | none =>
    simp only [Syn.is,hT,Bool.false_eq_true,if_false,Syn.atomN,Syn.name,Syn.R.on]
  | some k =>
    rw [hT] at h
    simp only
    rw [if_neg (by simpa using h)]
theorem name_no {ys:List It} {i:Nat} (h:Syn.named (Tk ys) i=false):Syn.name (Tk ys) i=.error (50,i):=by
  unfold Syn.named at h
  unfold Syn.name
  cases hT:Tk ys i with
  | none=>rfl
  | some k=>rw [hT] at h;exact if_neg (by simpa using h)
theorem name_yes {ys:List It} (len:Nat) {i:Nat} (h:Syn.named (Tk ys) i=true):Syn.name (Tk ys) i=.ok (bl (tk ys len i).t,i+1):=by
  have hi:=lt_of_named h
  unfold Syn.named at h
  unfold Syn.name
  rw [Tk_some (len:=len) hi] at h ⊢
  exact if_pos (by simpa using h)
section
variable {ys:List It} {len bp bw i:Nat} {vp:Value} {w:World}
theorem bracketed_any (hw:Ws ys) (h:PS ys len bp bw vp w i) (hi:i<ys.length) {d:Nat} {e:Option (Nat→Syn.R (List Syn.Tm))} (he:EOk ys len bp bw vp d e) (s:ByteArray) (hs:Mk (bl s)=true) {v:Value} {l0:List Syn.Tm} (hr:TR w v l0) (hb:l0.length+(ys.length - i)≤131072) :
    Calls Tryz.prog 209 #[.pointer (some ⟨bp,0,none⟩),.string s,v,.int .i64 (d:Int)] w (Ret ys len (TS bp v) w (Syn.brack (Tk ys) e (fun l=>l) (bl s) i) (TOk ys len bp bw vp l0 v w)):=by
  rcases he with ⟨rfl,rfl⟩ | ⟨hd,r,rfl,_,_,hR⟩
  · exact (bracketed_deep h s v (TS bp v)).mono fun e w' ⟨h1,h2⟩=>⟨h2,h1⟩
  · exact bracketed_some hw h hi hd s hs hR hr hb
theorem name_one (h:PS ys len bp bw vp w i) (hn:Syn.named (Tk ys) i=true):Calls Tryz.prog 144 #[.pointer (some ⟨bp,0,none⟩)] w fun e w'=>e=.returned (.string (tk ys len i).t)∧Chg (fun k=>k=bp) w w'∧PS ys len bp bw vp w' (i+1):=by
  have h1:=name_ps h
  rw [name_yes len hn] at h1
  refine h1.mono fun e w' ⟨a,b,c⟩=>⟨by rw [b,sb_bl],a,c⟩
theorem name_none (h:PS ys len bp bw vp w i) (hn:Syn.named (Tk ys) i=false) (S:Nat→Prop) (hS:S bp):Calls Tryz.prog 144 #[.pointer (some ⟨bp,0,none⟩)] w fun e w'=>e=.panicked (gv 50 ((tk ys len i).a:Nat))∧Chg S w w':=by
  have h1:=name_ps h
  rw [name_no hn] at h1
  exact h1.mono fun e w' ⟨a,b⟩=>⟨b,a.mono fun _ q=>.inl (by subst q;exact hS)⟩
attribute [local go_sem] tok_text tok_value
set_option maxRecDepth 100000 in
theorem plain_num (h:PS ys len bp bw vp w i) (hn:isNum (Tk ys) i=true) (d:Int) {v:Value} {l0:List Syn.Tm} (hr:TR w v l0) (hb:l0.length+(ys.length - i)≤131072) :
    Calls Tryz.prog 203 #[.pointer (some ⟨bp,0,none⟩),v,.int .i64 d] w fun e w'=>Chg (TS bp v) w w'∧TOk ys len bp bw vp l0 v w [⟨1,(tk ys len i).v,[]⟩] (i+1) e w':=by
  have hi:=lt_of_num hn
  obtain ⟨i0,hi0,hz0,hz1,hz2⟩:=infoTm
  have h1:=isKind_ps h 3
  rw [num_kind,hn] at h1
  have ht:=take_ps h hi
  go_enter Tryz.func203,Tryz.ntmps203
  go_wp2_with (go_at_call 167;refine h1.mono ?_;rintro e w' ⟨rfl,rfl⟩)
  go_at_call 140
  refine ht.mono ?_
  rintro e w1 ⟨rfl,hc1,hp1⟩
  have hr1:=tr_next h hr hc1
  go_wp2_with (at_builtin;refine wpList_append_own_at _ rfl _ _ 97 rfl 0 140 i0 _ 3 32 Tryz.underlying97 hi0 hz0 hz1 hz2 rfl (by decide) _ _ _ rfl (hr1.alloc _) ⟨w1.heap.size,0,none⟩ 1 1 (tmC ⟨1,(tk ys len i).v,[]⟩) rfl rfl (tm_new w1 ⟨1,(tk ys len i).v,[]⟩ 140) (tm_one _) (by unfold maxLen;omega) (by omega) (Nat.zero_le _) ?_)
  intro v' w9 hown9 hgrow9 _ hat9
  obtain ⟨a1,a2,a3,a4⟩:=tr_app hp1 hr1 140 hown9 hgrow9 hat9
  have hsz:=hc1.size
  clear hown9 hgrow9 hat9
  go_wp2
  go_ret
  exact ⟨(ts_le hc1).then a3,v',rfl,a1,a2,fun k hk=>by rcases a4 k hk with q | q <;> first | exact .inl q | exact .inr (by omega)⟩
theorem mk_40:Mk (bl ⟨#[40]⟩)=true:=by decide
theorem mk_41:Mk (bl ⟨#[41]⟩)=true:=by decide
theorem mk_91:Mk (bl ⟨#[91]⟩)=true:=by decide
theorem mk_93:Mk (bl ⟨#[93]⟩)=true:=by decide
set_option maxRecDepth 100000 in
theorem plain_par (hw:Ws ys) (h:PS ys len bp bw vp w i) (hn:isNum (Tk ys) i=false) (hp:Syn.is (Tk ys) i [40]=true) {d:Nat} {e:Option (Nat→Syn.R (List Syn.Tm))} (he:EOk ys len bp bw vp d e) {v:Value} {l0:List Syn.Tm} (hr:TR w v l0) (hb:l0.length+(ys.length - i)≤131072) :
    Calls Tryz.prog 203 #[.pointer (some ⟨bp,0,none⟩),v,.int .i64 (d:Int)] w (Ret ys len (TS bp v) w (Syn.brack (Tk ys) e (fun l=>l) [41] i) (TOk ys len bp bw vp l0 v w)):=by
  have hi:=lt_of_is hp
  have h1:=isKind_ps h 3
  rw [num_kind,hn] at h1
  have h2:=is_ps h ⟨#[40]⟩
  rw [eq_text,is_text hw len i mk_40,show bl ⟨#[40]⟩=[40] from rfl,hp] at h2
  have h3:=bracketed_any hw h hi he ⟨#[41]⟩ mk_41 hr hb
  rw [show bl ⟨#[41]⟩=[41] from rfl] at h3
  clear hn hp
  cases hB:Syn.brack (Tk ys) e (fun l=>l) [41] i with
  | error q =>
    obtain ⟨er,k⟩:=q
    rw [hB] at h3
    have HB:=Lib.hid hB
    clear hB
    go_enter Tryz.func203,Tryz.ntmps203
    go_wp2_with (first | (go_at_call 167;refine h1.mono ?_;rintro e w' ⟨rfl,rfl⟩) | (go_at_call 139;refine h2.mono ?_;rintro e w' ⟨rfl,rfl⟩))
    go_at_call 209
    refine h3.mono ?_
    rintro e w1 ⟨hc1,rfl⟩
    exact ⟨rfl,hc1,rfl⟩
  | ok q =>
    obtain ⟨l,j⟩:=q
    rw [hB] at h3
    have HB:=Lib.hid hB
    clear hB
    go_enter Tryz.func203,Tryz.ntmps203
    go_wp2_with (first | (go_at_call 167;refine h1.mono ?_;rintro e w' ⟨rfl,rfl⟩) | (go_at_call 139;refine h2.mono ?_;rintro e w' ⟨rfl,rfl⟩))
    go_at_call 209
    refine h3.mono ?_
    rintro e w1 ⟨hc1,v',rfl,a1,a2,a3⟩
    go_wp2
    go_ret
    exact ⟨hc1,v',rfl,a1,a2,a3⟩
set_option maxRecDepth 100000 in
theorem plain_none (hw:Ws ys) (h:PS ys len bp bw vp w i) (hn:isNum (Tk ys) i=false) (hp:Syn.is (Tk ys) i [40]=false) (hm:Syn.named (Tk ys) i=false) (d:Int) (v:Value) :
    Calls Tryz.prog 203 #[.pointer (some ⟨bp,0,none⟩),v,.int .i64 d] w fun e w'=>Chg (TS bp v) w w'∧e=.panicked (gv 50 ((tk ys len i).a:Nat)):=by
  have h1:=isKind_ps h 3
  rw [num_kind,hn] at h1
  have h2:=is_ps h ⟨#[40]⟩
  rw [eq_text,is_text hw len i mk_40,show bl ⟨#[40]⟩=[40] from rfl,hp] at h2
  have h3:=name_none h hm (TS bp v) (.inl rfl)
  clear hn hp hm
  go_enter Tryz.func203,Tryz.ntmps203
  go_wp2_with (first | (go_at_call 167;refine h1.mono ?_;rintro e w' ⟨rfl,rfl⟩) | (go_at_call 139;refine h2.mono ?_;rintro e w' ⟨rfl,rfl⟩))
  go_at_call 144
  refine h3.mono ?_
  rintro e w1 ⟨rfl,hc1⟩
  exact ⟨rfl,hc1,rfl⟩
set_option maxRecDepth 100000 in
theorem plain_name (hw:Ws ys) (h:PS ys len bp bw vp w i) (hn:isNum (Tk ys) i=false) (hp:Syn.is (Tk ys) i [40]=false) (hm:Syn.named (Tk ys) i=true) (hq:Syn.is (Tk ys) (i+1) [91]=false) (d:Int) {v:Value} {l0:List Syn.Tm} (hr:TR w v l0) (hb:l0.length+(ys.length - i)≤131072) :
    Calls Tryz.prog 203 #[.pointer (some ⟨bp,0,none⟩),v,.int .i64 d] w fun e w'=>Chg (TS bp v) w w'∧TOk ys len bp bw vp l0 v w [⟨2,0,bl (tk ys len i).t⟩] (i+1) e w':=by
  have hi:=lt_of_named hm
  obtain ⟨i0,hi0,hz0,hz1,hz2⟩:=infoTm
  have h1:=isKind_ps h 3
  rw [num_kind,hn] at h1
  have h2:=is_ps h ⟨#[40]⟩
  rw [eq_text,is_text hw len i mk_40,show bl ⟨#[40]⟩=[40] from rfl,hp] at h2
  have h3:=name_one h hm
  have h4:=Lib.hid (fun w1 (hp1:PS ys len bp bw vp w1 (i+1))=>by
    have:=is_ps hp1 ⟨#[91]⟩
    rw [eq_text,is_text hw len (i+1) mk_91,show bl ⟨#[91]⟩=[91] from rfl,hq] at this
    exact this)
  have HC:=Lib.hid (show tmC ⟨2,0,bl (tk ys len i).t⟩=[.int .i64 2,.int .i64 0,.string (tk ys len i).t] from by unfold tmC;rw [sb_bl];rfl)
  clear hn hp hm hq
  go_enter Tryz.func203,Tryz.ntmps203
  go_wp2_with (first | (go_at_call 167;refine h1.mono ?_;rintro e w' ⟨rfl,rfl⟩) | (go_at_call 139;refine h2.mono ?_;rintro e w' ⟨rfl,rfl⟩))
  go_at_call 144
  refine h3.mono ?_
  rintro e w1 ⟨rfl,hc1,hp1⟩
  have hr1:=tr_next h hr hc1
  have h5:=h4.out w1 hp1
  have hnew:=tm_new w1 ⟨2,0,bl (tk ys len i).t⟩ 140
  have hone:=tm_one ⟨2,0,bl (tk ys len i).t⟩
  have happ:=Lib.hid (fun v' w9=>tr_app (t:=⟨2,0,bl (tk ys len i).t⟩) (v':=v') (w9:=w9) hp1 hr1 140)
  rw [HC.out] at hnew hone happ
  go_wp2_with (first | (go_at_call 139;refine h5.mono ?_;rintro e w' ⟨rfl,rfl⟩) | (at_builtin;refine wpList_append_own_at _ rfl _ _ 97 rfl 0 140 i0 _ 3 32 Tryz.underlying97 hi0 hz0 hz1 hz2 rfl (by decide) _ _ _ rfl (hr1.alloc _) ⟨w1.heap.size,0,none⟩ 1 1 [.int .i64 2,.int .i64 0,.string (tk ys len i).t] rfl rfl hnew hone (by unfold maxLen;omega) (by omega) (Nat.zero_le _) ?_))
  intro v' w9 hown9 hgrow9 _ hat9
  obtain ⟨a1,a2,a3,a4⟩:=happ.out v' w9 hown9 hgrow9 hat9
  have hsz:=hc1.size
  clear hown9 hgrow9 hat9
  go_wp2
  go_ret
  exact ⟨(ts_le hc1).then a3,v',rfl,a1,a2,fun k hk=>by rcases a4 k hk with q | q <;> first | exact .inl q | exact .inr (by omega)⟩
set_option maxRecDepth 100000 in
theorem plain_index_bad (hw:Ws ys) (h:PS ys len bp bw vp w i) (hn:isNum (Tk ys) i=false) (hp:Syn.is (Tk ys) i [40]=false) (hm:Syn.named (Tk ys) i=true) (hq:Syn.is (Tk ys) (i+1) [91]=true) {d:Nat} {e:Option (Nat→Syn.R (List Syn.Tm))} (he:EOk ys len bp bw vp d e) {v:Value} {l0:List Syn.Tm} (hr:TR w v l0) (hb:l0.length+(ys.length - i)≤131072)
    {er k:Nat} (hB:Syn.brack (Tk ys) e (fun l=>l) [93] (i+1)=.error (er,k)) :
    Calls Tryz.prog 203 #[.pointer (some ⟨bp,0,none⟩),v,.int .i64 (d:Int)] w fun e w'=>Chg (TS bp v) w w'∧e=.panicked (gv er ((tk ys len k).a:Nat)):=by
  have hi:=lt_of_is hq
  have h1:=isKind_ps h 3
  rw [num_kind,hn] at h1
  have h2:=is_ps h ⟨#[40]⟩
  rw [eq_text,is_text hw len i mk_40,show bl ⟨#[40]⟩=[40] from rfl,hp] at h2
  have h3:=name_one h hm
  have h4:=Lib.hid (fun w1 (hp1:PS ys len bp bw vp w1 (i+1))=>by
    have:=is_ps hp1 ⟨#[91]⟩
    rw [eq_text,is_text hw len (i+1) mk_91,show bl ⟨#[91]⟩=[91] from rfl,hq] at this
    exact this)
  have h6:=Lib.hid (fun w1 (hp1:PS ys len bp bw vp w1 (i+1)) (hr1:TR w1 v l0)=>by
    have:=bracketed_any hw hp1 hi he ⟨#[93]⟩ mk_93 hr1 (by omega)
    rw [show bl ⟨#[93]⟩=[93] from rfl,hB] at this
    exact this)
  clear hn hp hm hq hB
  go_enter Tryz.func203,Tryz.ntmps203
  go_wp2_with (first | (go_at_call 167;refine h1.mono ?_;rintro e w' ⟨rfl,rfl⟩) | (go_at_call 139;refine h2.mono ?_;rintro e w' ⟨rfl,rfl⟩))
  go_at_call 144
  refine h3.mono ?_
  rintro e w1 ⟨rfl,hc1,hp1⟩
  have hr1:=tr_next h hr hc1
  have h5:=h4.out w1 hp1
  go_wp2_with (go_at_call 139;refine h5.mono ?_;rintro e w' ⟨rfl,rfl⟩)
  go_at_call 209
  refine (h6.out w1 hp1 hr1).mono ?_
  rintro e w2 ⟨hc2,rfl⟩
  exact ⟨rfl,(ts_le hc1).then hc2,rfl⟩
set_option maxRecDepth 100000 in
theorem plain_index (hw:Ws ys) (h:PS ys len bp bw vp w i) (hn:isNum (Tk ys) i=false) (hp:Syn.is (Tk ys) i [40]=false) (hm:Syn.named (Tk ys) i=true) (hq:Syn.is (Tk ys) (i+1) [91]=true) {d:Nat} {e:Option (Nat→Syn.R (List Syn.Tm))} (he:EOk ys len bp bw vp d e) {v:Value} {l0:List Syn.Tm} (hr:TR w v l0) (hb:l0.length+(ys.length - i)≤131072)
    {l:List Syn.Tm} {j:Nat} (hB:Syn.brack (Tk ys) e (fun l=>l) [93] (i+1)=.ok (l,j)) (hlj:l.length+(i+1)≤j) (hj:j≤ys.length) :
    Calls Tryz.prog 203 #[.pointer (some ⟨bp,0,none⟩),v,.int .i64 (d:Int)] w fun e w'=>Chg (TS bp v) w w'∧TOk ys len bp bw vp l0 v w (l++[⟨3,0,bl (tk ys len i).t⟩]) j e w':=by
  have hi:=lt_of_is hq
  obtain ⟨i0,hi0,hz0,hz1,hz2⟩:=infoTm
  have h1:=isKind_ps h 3
  rw [num_kind,hn] at h1
  have h2:=is_ps h ⟨#[40]⟩
  rw [eq_text,is_text hw len i mk_40,show bl ⟨#[40]⟩=[40] from rfl,hp] at h2
  have h3:=name_one h hm
  have h4:=Lib.hid (fun w1 (hp1:PS ys len bp bw vp w1 (i+1))=>by
    have:=is_ps hp1 ⟨#[91]⟩
    rw [eq_text,is_text hw len (i+1) mk_91,show bl ⟨#[91]⟩=[91] from rfl,hq] at this
    exact this)
  have h6:=Lib.hid (fun w1 (hp1:PS ys len bp bw vp w1 (i+1)) (hr1:TR w1 v l0)=>by
    have:=bracketed_any hw hp1 hi he ⟨#[93]⟩ mk_93 hr1 (by omega)
    rw [show bl ⟨#[93]⟩=[93] from rfl,hB] at this
    exact this)
  have HC:=Lib.hid (show tmC ⟨3,0,bl (tk ys len i).t⟩=[.int .i64 3,.int .i64 0,.string (tk ys len i).t] from by unfold tmC;rw [sb_bl];rfl)
  clear hn hp hm hq hB
  go_enter Tryz.func203,Tryz.ntmps203
  go_wp2_with (first | (go_at_call 167;refine h1.mono ?_;rintro e w' ⟨rfl,rfl⟩) | (go_at_call 139;refine h2.mono ?_;rintro e w' ⟨rfl,rfl⟩))
  go_at_call 144
  refine h3.mono ?_
  rintro e w1 ⟨rfl,hc1,hp1⟩
  have hr1:=tr_next h hr hc1
  have h5:=h4.out w1 hp1
  have hsz1:=hc1.size
  go_wp2_with (go_at_call 139;refine h5.mono ?_;rintro e w' ⟨rfl,rfl⟩)
  go_at_call 209
  refine (h6.out w1 hp1 hr1).mono ?_
  rintro e w2 ⟨hc2,v2,rfl,hr2,hp2,hob2⟩
  have hsz2:=hc2.size
  have hnew:=tm_new w2 ⟨3,0,bl (tk ys len i).t⟩ 140
  have hone:=tm_one ⟨3,0,bl (tk ys len i).t⟩
  have happ:=Lib.hid (fun v' w9=>tr_app (t:=⟨3,0,bl (tk ys len i).t⟩) (v':=v') (w9:=w9) hp2 hr2 140)
  have hlen:(l0++l).length≤131072:=by rw [List.length_append];omega
  rw [HC.out] at hnew hone happ
  go_wp2_with (at_builtin;refine wpList_append_own_at _ rfl _ _ 97 rfl 0 140 i0 _ 3 32 Tryz.underlying97 hi0 hz0 hz1 hz2 rfl (by decide) _ _ _ rfl (hr2.alloc _) ⟨w2.heap.size,0,none⟩ 1 1 [.int .i64 3,.int .i64 0,.string (tk ys len i).t] rfl rfl hnew hone (by unfold maxLen;omega) (by omega) (Nat.zero_le _) ?_)
  intro v' w9 hown9 hgrow9 _ hat9
  obtain ⟨a1,a2,a3,a4⟩:=happ.out v' w9 (by rw [List.length_append];exact hown9) hgrow9 hat9
  rw [List.append_assoc] at a1
  clear hown9 hgrow9 hat9
  go_wp2
  go_ret
  refine ⟨((ts_le hc1).then hc2).trans a3 (fun k hk=>?_),v',rfl,a1,a2,fun k hk=>?_⟩
  · rcases hk with q | q
    · exact .inl (.inl q)
    · rcases hob2 k q with q | q
      · exact .inl (.inr q)
      · exact .inr (by omega)
  · rcases a4 k hk with q | q
    · rcases hob2 k q with q | q
      · exact .inl q
      · exact .inr (by omega)
    · exact .inr (by omega)
theorem plain_any (hw:Ws ys) {d:Nat} {e:Option (Nat→Syn.R (List Syn.Tm))} (he:EOk ys len bp bw vp d e):RdT ys len bp bw vp 203 (fun v=>#[.pointer (some ⟨bp,0,none⟩),v,.int .i64 (d:Int)]) (fun _=>True) (Syn.atom (Tk ys) e):=by
  intro w i v l0 _ h hr hb
  cases hn:isNum (Tk ys) i with
  | true=>rw [atom_num len e hn];exact plain_num h hn d hr hb
  | false =>
    rw [atom_rest e hn]
    cases hp:Syn.is (Tk ys) i [40] with
    | true=>rw [if_pos rfl];exact plain_par hw h hn hp he hr hb
    | false =>
      rw [if_neg (by simp)]
      unfold Syn.atomN
      cases hm:Syn.named (Tk ys) i with
      | false=>rw [name_no hm];exact plain_none hw h hn hp hm d v
      | true =>
        rw [name_yes len hm]
        simp only [Syn.R.on]
        cases hq:Syn.is (Tk ys) (i+1) [91] with
        | false=>rw [if_neg (by simp)];exact plain_name hw h hn hp hm hq d hr hb
        | true =>
          rw [if_pos rfl,brack_g]
          cases hB:Syn.brack (Tk ys) e (fun l=>l) [93] (i+1) with
          | error q=>exact plain_index_bad hw h hn hp hm hq he hr hb hB
          | ok q =>
            obtain ⟨l,j⟩:=q
            have hc:=Syn.brack_cnt he.cnt (g:=fun l=>l) (fun l=>Nat.le_succ _) hB
            have hf:=(Syn.brack_fit (tk_nones ys) he.fit (fun l=>l) [93] (lt_of_is hq)).pos hB
            exact plain_index hw h hn hp hm hq he hr hb hB hc hf
end
end Go.Proofs.YtlpdjfimefjmcaaGreatDoor.Q
