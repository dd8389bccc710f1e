/- Plain facts on a text's words: all of them, ahead of the first fault; each is good by itself; their texts with blanks between have the same words. (No seat's own names: to be renamed to the seat that needs it.) Contracts of the byte tests of package lex and of the document's answer: for every byte a -/
import Derived.Test.YtlpdjfimefjmcaaGreatDoorFlLevelsPR3
import Derived.Test.YtlpdjfimefjmcaaGreatDoorProg
import Derived.WalkKit
import Derived.Outline
import Derived.Lib.Hide
import Derived.LoopTactic
import Derived.Lib.Strings
import Derived.Lib.ParseIntBCases
import Derived.Shelf.Strings.Builder1
import Derived.Shelf.Strings.Builder2
import Derived.Shelf.Strings.BuilderF
import Derived.Shelf.Strings.BuilderK
import Derived.Shelf.Strconv.Itoa0
import Derived.Shelf.Strconv.Itoa1
import Derived.Shelf.LaysM
import Derived.Shelf.Strconv.Itoa2
import Derived.Shelf.Strconv.Itoa3
import Derived.Shelf.Strconv.Itoa4
import Derived.Shelf.Strconv.ParseIntEmpty
import Derived.Shelf.Strconv.Clone
import Derived.Shelf.Strconv.SyntaxError
import Derived.Shelf.LaysC
import Derived.Shelf.Strconv.ToError
import Derived.Shelf.Strconv.Lower
import Derived.Shelf.Strconv.ParseUint10
import Derived.Shelf.Strconv.ParseUint10Empty
import Derived.Shelf.Strconv.ParseUint10Any
import Derived.Shelf.Strconv.ParseInt10
import Derived.Shelf.Strconv.RangeError
import Derived.Shelf.Strconv.ToErrorRange
import Derived.Shelf.Strconv.ParseUintEmpty
import Derived.Shelf.Strconv.ParseUint10b64
import Derived.Shelf.Strconv.ParseUint10b32
import Derived.Shelf.Strconv.ParseUint10b16
import Derived.Shelf.Strconv.ParseUint10b8
import Derived.Shelf.Strconv.ParseUint10At
import Derived.Shelf.Strconv.ParseInt10At64
import Derived.Shelf.Strconv.ParseInt10At32
import Derived.Shelf.Strconv.ParseInt10At16
import Derived.Shelf.Strconv.ParseInt10At8
import Derived.Shelf.Strconv.ParseInt10All
import Derived.Shelf.Strconv.ParseIntPublic10
import Derived.Shelf.Strings.Prefix
import Derived.Shelf.Bits.Mul64
import Derived.Shelf.Strings.Repeat
import Derived.Shelf.Slices.Turned
import Derived.Shelf.Slices.Equal
import Derived.Ground.SlgnProg
import Derived.Shelf.SlicesE.Equal
namespace Go.Proofs.YtlpdjfimefjmcaaGreatDoor.Q
structure Tok where
  kind:Nat
  text:List Nat
  value:Nat
  at_:Nat
deriving DecidableEq
def valD (l:List Nat):Nat:=l.foldl (fun n d=>10 * n+(d - 48)) 0
abbrev most:Nat:=9223372036854775807
def inC (c:Nat):Bool:=c != 10
theorem drop_lt (c:Nat) (r:List Nat) (n:Nat) (h:n ≠ 0):((c :: r).drop n).length<(c :: r).length:=by
  rw [List.length_drop,List.length_cons];omega
theorem dropWhile_lt (r:List Nat):((35 :: r).dropWhile inC).length<(35 :: r).length:=by
  rw [List.dropWhile_cons,if_pos (by decide)]
  have:=(List.dropWhile_sublist inC (l:=r)).length_le
  rw [List.length_cons];omega
def scanL (l:List Nat) (a:Nat):List Tok × Nat × Nat :=
  match l with
  | []=>([],a,0)
  | c :: r =>
    if blankB c then scanL r (a+1)
    else if _h35:c=35 then scanL ((c :: r).dropWhile inC) (a+((c :: r).takeWhile inC).length)
    else if _h0:(wordL (c :: r)).1=0 then ([],a,40)
    else if (wordL (c :: r)).2=1∧32<(wordL (c :: r)).1 then ([],a,3)
    else if (wordL (c :: r)).2=3∧most<valD ((c :: r).take (wordL (c :: r)).1) then ([],a,3)
    else
      (⟨(wordL (c :: r)).2,(c :: r).take (wordL (c :: r)).1,if (wordL (c :: r)).2=3 then valD ((c :: r).take (wordL (c :: r)).1) else 0,a⟩ :: (scanL ((c :: r).drop (wordL (c :: r)).1) (a+(wordL (c :: r)).1)).1,
        (scanL ((c :: r).drop (wordL (c :: r)).1) (a+(wordL (c :: r)).1)).2)
termination_by l.length
decreasing_by
  · simp
  · subst _h35;exact dropWhile_lt r
  · exact drop_lt c r _ _h0
theorem scanL_blank {c:Nat} (r:List Nat) (a:Nat) (h:blankB c=true):scanL (c :: r) a=scanL r (a+1):=by rw [scanL,if_pos h]
structure Good (k:Nat) (t:List Nat) (v:Nat):Prop where
  word:wordL t=(t.length,k)
  ne:t ≠ []
  head:∀ c,t.head?=some c→blankB c=false∧c ≠ 35
  name:¬ (k=1∧32<t.length)
  num:¬ (k=3∧most<valD t)
  val:v=if k=3 then valD t else 0
theorem good_of {s:List Nat} (hs:(wordL s).1 ≠ 0) (hh:∀ c,s.head?=some c→blankB c=false∧c ≠ 35) (hn:¬ ((wordL s).2=1∧32<(wordL s).1)) (hu:¬ ((wordL s).2=3∧most<valD (s.take (wordL s).1))) :
    Good (wordL s).2 (s.take (wordL s).1) (if (wordL s).2=3 then valD (s.take (wordL s).1) else 0):=by
  have hle:=wordL_le s
  have hlen:(s.take (wordL s).1).length=(wordL s).1:=by rw [List.length_take];omega
  have hag:=wordL_again s hs [] (.inl rfl)
  rw [List.append_nil] at hag
  refine ⟨by rw [hag,hlen],fun e=>hs (by rw [← hlen,e];rfl),fun c hc=>?_,by rw [hlen];exact hn,hu,rfl⟩
  cases s with
  | nil=>simp at hc
  | cons d s =>
    obtain ⟨n,hn'⟩:∃ n,(wordL (d :: s)).1=n+1:=⟨(wordL (d :: s)).1 - 1,by omega⟩
    rw [hn',List.take_succ_cons] at hc
    obtain rfl:d=c:=by simpa using hc
    exact hh d rfl
theorem scanL_all:∀ (N:Nat) (l:List Nat),l.length≤N→∀ a,∀ t ∈ (scanL l a).1,Good t.kind t.text t.value
  | _,[],_,a,t,ht=>by rw [scanL] at ht;exact absurd ht (by simp)
  | 0,c :: r,h,_,_,_=>absurd h (by simp)
  | N+1,c :: r,h,a,t,ht=>by
    have hr:r.length≤N:=by simpa using h
    rw [scanL] at ht
    split at ht
    · exact scanL_all N r hr _ t ht
    · rename_i hb
      split at ht
      · rename_i h35
        subst h35
        exact scanL_all N _ (by have:=dropWhile_lt r;rw [List.length_cons] at this;omega) _ t ht
      · rename_i h35
        split at ht
        · exact absurd ht (by simp)
        · rename_i h0
          split at ht
          · exact absurd ht (by simp)
          · rename_i hn
            split at ht
            · exact absurd ht (by simp)
            · rename_i hu
              rcases List.mem_cons.1 ht with rfl | ht
              · refine good_of h0 (fun d hd=>?_) hn hu
                obtain rfl:c=d:=by simpa using hd
                exact ⟨by simpa using hb,h35⟩
              · exact scanL_all N _ (by have:=drop_lt c r _ h0;rw [List.length_cons] at this;omega) _ t ht
end Go.Proofs.YtlpdjfimefjmcaaGreatDoor.Q
namespace Go.Proofs.YtlpdjfimefjmcaaGreatDoor.Q
open Go Go.RowKit
theorem ret_bool {a b:Bool} (h:a=b):Ending.returned (.bool a)=.returned (.bool b):=by rw [h]
theorem ret_int {k:IntKind} {a b:Int} (h:a=b):Ending.returned (.int k a)=.returned (.int k b):=by rw [h]
theorem letterB_iff (c:Nat):letterB c=true ↔ (97≤c∧c≤122) ∨ c=95:=by simp [letterB]
theorem digitB_iff (c:Nat):digitB c=true ↔ 48≤c∧c≤57:=by simp [digitB]
theorem blankB_iff (c:Nat):blankB c=true ↔ c=9 ∨ c=10 ∨ c=13 ∨ c=32:=by simp [blankB,or_assoc]
theorem isLetter_any (c:Nat) (w:World):Calls Tryz.prog 188 #[.int .u8 (c:Int)] w fun e w'=>e=.returned (.bool (letterB c))∧w=w':=by
  have hc:(97≤c∧c≤122) ∨ c<97 ∨ 122<c:=by omega
  rcases hc with ⟨h1,h2⟩ | h1 | h1
  all_goals
    go_enter Tryz.func188,Tryz.ntmps188
    go_wp2
    all_goals
      go_ret
      exact ⟨ret_bool (by rw [Bool.eq_iff_iff,letterB_iff];simp;omega),rfl⟩
theorem isDigit_any (c:Nat) (w:World):Calls Tryz.prog 191 #[.int .u8 (c:Int)] w fun e w'=>e=.returned (.bool (digitB c))∧w=w':=by
  have hc:(48≤c∧c≤57) ∨ c<48 ∨ 57<c:=by omega
  rcases hc with ⟨h1,h2⟩ | h1 | h1
  all_goals
    go_enter Tryz.func191,Tryz.ntmps191
    go_wp2
    all_goals
      go_ret
      exact ⟨ret_bool (by rw [Bool.eq_iff_iff,digitB_iff];simp;omega),rfl⟩
theorem isBlank_any (c:Nat) (w:World):Calls Tryz.prog 187 #[.int .u8 (c:Int)] w fun e w'=>e=.returned (.bool (blankB c))∧w=w':=by
  go_enter Tryz.func187,Tryz.ntmps187
  go_wp2
  all_goals
    go_ret
    exact ⟨ret_bool (by rw [Bool.eq_iff_iff,blankB_iff];simp;omega),rfl⟩
theorem isInLine_any (c:Nat) (w:World):Calls Tryz.prog 186 #[.int .u8 (c:Int)] w fun e w'=>e=.returned (.bool (inC c))∧w=w':=by
  go_enter Tryz.func186,Tryz.ntmps186
  go_wp2
  go_ret
  exact ⟨ret_bool (by rw [Bool.eq_iff_iff];simp [inC];omega),rfl⟩
theorem isOfName_any (c:Nat) (w:World):Calls Tryz.prog 190 #[.int .u8 (c:Int)] w fun e w'=>e=.returned (.bool (nameB c))∧w=w':=by
  cases h:letterB c
  · have h1:=h ▸ isLetter_any c w
    go_enter Tryz.func190,Tryz.ntmps190
    go_wp2_with (first | (go_at_call 188;refine h1.mono ?_;rintro e w' ⟨rfl,rfl⟩) | (go_at_call 191;refine (isDigit_any c _).mono ?_;rintro e w' ⟨rfl,rfl⟩))
    go_ret
    exact ⟨ret_bool (by simp [nameB,h]),rfl⟩
  · have h1:=h ▸ isLetter_any c w
    go_enter Tryz.func190,Tryz.ntmps190
    go_wp2_with (first | (go_at_call 188;refine h1.mono ?_;rintro e w' ⟨rfl,rfl⟩) | (go_at_call 191;refine (isDigit_any c _).mono ?_;rintro e w' ⟨rfl,rfl⟩))
    go_ret
    exact ⟨ret_bool (by simp [nameB,h]),rfl⟩
end Go.Proofs.YtlpdjfimefjmcaaGreatDoor.Q
namespace Go.Proofs.YtlpdjfimefjmcaaGreatDoor.Q
theorem foldl_ge:∀ (l:List Nat) (n:Nat),n≤l.foldl (fun n d=>10 * n+(d - 48)) n
  | [],n=>Nat.le_refl _
  | d :: l,n=>by
    have:=foldl_ge l (10 * n+(d - 48))
    rw [List.foldl_cons];omega
theorem digit_range {c:Nat} (h:digitB c=true):48≤c∧c≤57:=by
  unfold digitB at h
  simpa using h
end Go.Proofs.YtlpdjfimefjmcaaGreatDoor.Q
namespace Go.Proofs.YtlpdjfimefjmcaaGreatDoor.Q
open Go
def errL (l:List Nat):Nat :=
  if (wordL l).1=0 then 40 else if (wordL l).2=1∧32<(wordL l).1 then 3 else if (wordL l).2=3∧most<valD (l.take (wordL l).1) then 3 else 0
def valL (l:List Nat):Nat:=if (wordL l).2=3 then valD (l.take (wordL l).1) else 0
def gapL (l:List Nat):Nat:=if l.head?=some 35 then (l.takeWhile inC).length else (l.takeWhile blankB).length
theorem drop_takeWhile {p:Nat→Bool}:∀ l:List Nat,l.drop (l.takeWhile p).length=l.dropWhile p
  | []=>rfl
  | c :: r=>by
    rw [List.takeWhile_cons,List.dropWhile_cons]
    split
    · rw [List.length_cons,List.drop_succ_cons,drop_takeWhile r]
    · rfl
theorem scan_blanks:∀ (l:List Nat) (a:Nat),scanL l a=scanL (l.dropWhile blankB) (a+(l.takeWhile blankB).length)
  | [],a=>by simp
  | c :: r,a=>by
    by_cases h:blankB c=true
    · rw [scanL_blank r a h,scan_blanks r (a+1),List.dropWhile_cons,if_pos h,List.takeWhile_cons,if_pos h,List.length_cons]
      congr 1;omega
    · rw [List.dropWhile_cons,if_neg h,List.takeWhile_cons,if_neg h];rfl
theorem scan_comment (r:List Nat) (a:Nat):scanL (35 :: r) a=scanL ((35 :: r).dropWhile inC) (a+((35 :: r).takeWhile inC).length):=by
  rw [scanL,if_neg (by decide),dif_pos rfl]
theorem scan_gap (l:List Nat) (a:Nat):scanL l a=scanL (l.drop (gapL l)) (a+gapL l):=by
  unfold gapL
  split
  · rename_i h
    cases l with
    | nil=>simp at h
    | cons c r =>
      obtain rfl:c=35:=by simpa using h
      rw [drop_takeWhile]
      exact scan_comment r a
  · rw [drop_takeWhile]
    exact scan_blanks l a
theorem no_gap {c:Nat} {r:List Nat} (h:gapL (c :: r)=0):blankB c=false∧c ≠ 35:=by
  unfold gapL at h
  split at h
  · rename_i h35
    obtain rfl:c=35:=by simpa using h35
    rw [List.takeWhile_cons,if_pos (by decide)] at h
    simp at h
  · rename_i h35
    refine ⟨?_,by simpa using h35⟩
    rw [List.takeWhile_cons] at h
    split at h
    · simp at h
    · rename_i hb;simpa using hb
theorem scan_err {c:Nat} {r:List Nat} (a:Nat) (h:blankB c=false) (h35:c ≠ 35) (he:errL (c :: r) ≠ 0):scanL (c :: r) a=([],a,errL (c :: r)):=by
  unfold errL at he ⊢
  rw [scanL,if_neg (by rw [h];simp),dif_neg h35]
  split
  · rfl
  · rename_i h0
    rw [if_neg h0] at he
    split
    · rfl
    · rename_i h1
      rw [if_neg h1] at he
      split
      · rfl
      · rename_i h2;rw [if_neg h2] at he;exact absurd rfl he
theorem scan_word {c:Nat} {r:List Nat} (a:Nat) (h:blankB c=false) (h35:c ≠ 35) (he:errL (c :: r)=0) :
    scanL (c :: r) a=(⟨(wordL (c :: r)).2,(c :: r).take (wordL (c :: r)).1,valL (c :: r),a⟩ :: (scanL ((c :: r).drop (wordL (c :: r)).1) (a+(wordL (c :: r)).1)).1,(scanL ((c :: r).drop (wordL (c :: r)).1) (a+(wordL (c :: r)).1)).2):=by
  unfold errL at he
  rw [scanL,if_neg (by rw [h];simp),dif_neg h35]
  split
  · rename_i h0;rw [if_pos h0] at he;exact absurd he (by decide)
  · rename_i h0
    rw [if_neg h0] at he
    split
    · rename_i h1;rw [if_pos h1] at he;exact absurd he (by decide)
    · rename_i h1
      rw [if_neg h1] at he
      split
      · rename_i h2;rw [if_pos h2] at he;exact absurd he (by decide)
      · rfl
theorem errL_word {l:List Nat} (he:errL l=0):(wordL l).1 ≠ 0:=by
  intro h
  rw [errL,if_pos h] at he
  exact absurd he (by decide)
def itemsOf (r:List Tok × Nat × Nat):List (Tok × Nat):=r.1.map (fun t=>(t,0))++if r.2.2=0 then [] else [(⟨0,[],0,r.2.1⟩,r.2.2)]
theorem items_word {c:Nat} {r:List Nat} (a:Nat) (h:blankB c=false) (h35:c ≠ 35) (he:errL (c :: r)=0) :
    itemsOf (scanL (c :: r) a)=(⟨(wordL (c :: r)).2,(c :: r).take (wordL (c :: r)).1,valL (c :: r),a⟩,0) :: itemsOf (scanL ((c :: r).drop (wordL (c :: r)).1) (a+(wordL (c :: r)).1)):=by
  rw [scan_word a h h35 he];rfl
theorem items_err {c:Nat} {r:List Nat} (a:Nat) (h:blankB c=false) (h35:c ≠ 35) (he:errL (c :: r) ≠ 0) :
    itemsOf (scanL (c :: r) a)=[(⟨0,[],0,a⟩,errL (c :: r))]:=by
  rw [scan_err a h h35 he,itemsOf];simp [he]
theorem items_nil (a:Nat):itemsOf (scanL [] a)=[]:=by rw [scanL];rfl
theorem items_gap (l:List Nat) (a:Nat):itemsOf (scanL l a)=itemsOf (scanL (l.drop (gapL l)) (a+gapL l)):=by rw [← scan_gap]
theorem scan_count:∀ (N:Nat) (l:List Nat),l.length≤N→∀ a,(scanL l a).1.length≤l.length
  | N,l,h,a=>by
    cases l with
    | nil=>rw [scanL];exact Nat.le_refl _
    | cons c r =>
      by_cases hb:blankB c=true
      · cases N with
        | zero=>simp at h
        | succ N =>
          rw [scanL_blank r a hb]
          have:=scan_count N r (by simpa using h) (a+1)
          rw [List.length_cons];omega
      · have hb:blankB c=false:=by simpa using hb
        by_cases h35:c=35
        · cases N with
          | zero=>simp at h
          | succ N =>
            subst h35
            rw [scan_comment]
            have hl:=dropWhile_lt r
            have:=scan_count N ((35 :: r).dropWhile inC) (by rw [List.length_cons] at h hl;omega) (a+((35 :: r).takeWhile inC).length)
            omega
        · by_cases he:errL (c :: r)=0
          · cases N with
            | zero=>simp at h
            | succ N =>
              rw [scan_word a hb h35 he]
              have hl:=drop_lt c r _ (errL_word he)
              have:=scan_count N ((c :: r).drop (wordL (c :: r)).1) (by rw [List.length_cons] at h hl;omega) (a+(wordL (c :: r)).1)
              show _+1≤_
              omega
          · rw [scan_err a hb h35 he];simp
end Go.Proofs.YtlpdjfimefjmcaaGreatDoor.Q
namespace Go.Proofs.YtlpdjfimefjmcaaGreatDoor.Q
open Go Go.RowKit
def bl (s:ByteArray):List Nat:=s.data.toList.map UInt8.toNat
theorem bl_length (s:ByteArray):(bl s).length=s.size:=by simp [bl]
theorem bl_get (s:ByteArray) (i:Nat) (h:i<s.size):(bl s)[i]?=some (s[i]).toNat:=by
  have h':i<s.data.toList.length:=by simpa using h
  rw [bl,List.getElem?_map,List.getElem?_eq_getElem h'];rfl
theorem bl_extract (s:ByteArray) (a b:Nat):bl (s.extract a b)=((bl s).take b).drop a:=by
  unfold bl
  rw [ByteArray.data_extract,Array.toList_extract,List.extract_eq_take_drop,List.map_take,List.map_drop,List.drop_take]
theorem bl_inj {s t:ByteArray} (h:bl s=bl t):s=t:=by
  unfold bl at h
  have:s.data.toList=t.data.toList:=(List.map_inj_right (fun a b h=>UInt8.toNat_inj.1 h)).1 h
  apply ByteArray.ext
  exact Array.ext' this
theorem run_step {p:Nat→Bool} (l:List Nat) (k:Nat) (h:∀ x ∈ l.take k,p x=true) (c:Nat) (hc:l[k]?=some c) (hp:p c=true):∀ x ∈ l.take (k+1),p x=true:=by
  rw [List.take_add_one,hc]
  intro x hx
  rcases List.mem_append.1 hx with h1 | h1
  · exact h x h1
  · obtain rfl:x=c:=by simpa using h1
    exact hp
theorem run_stop {p:Nat→Bool} (l:List Nat) (k:Nat) (h:∀ x ∈ l.take k,p x=true) (c:Nat) (hc:l[k]?=some c) (hp:p c=false):(l.takeWhile p).length=k:=by
  have hk:k<l.length:=(List.getElem?_eq_some_iff.1 hc).1
  have h2:l=l.take k++l.drop k:=(List.take_append_drop k l).symm
  have hd:(l.drop k).head?=some c:=by rw [List.head?_drop];exact hc
  rw [h2, takeWhile_stop _ _ h (fun d hd' => by rw [hd] at hd'; obtain rfl : c = d := by simpa using hd'
                                                exact hp),List.length_take]
  omega
theorem run_end {p:Nat→Bool} (l:List Nat) (h:∀ x ∈ l.take l.length,p x=true):(l.takeWhile p).length=l.length:=by
  rw [List.take_length] at h
  have:=takeWhile_stop l [] h (by simp)
  rw [List.append_nil] at this
  rw [this]
set_option maxHeartbeats 400000 in
theorem run_name (s:ByteArray) (hs:s.size≤9223372036854775806) (w:World) :
    Calls Tryz.prog 185 #[.string s,.func (.func 190) #[] #[]] w fun e w'=>e=.returned (.int .i64 ((((bl s).takeWhile nameB).length:Nat):Int))∧w=w':=by
  go_enter Tryz.func185,Tryz.ntmps185
  go_wp2
  go_loop [8] (fun i=>∃ k:Nat,k≤s.size∧i=.int .i64 k∧Hid (∀ x ∈ (bl s).take k,nameB x=true)) (fun i=>s.size - (intOf i).toNat)
  case atStart=>exact ⟨0,Nat.zero_le _,rfl,Lib.hid (by simp)⟩
  case round =>
    obtain ⟨k,hk,rfl,H⟩:=hrel
    by_cases hlt:k<s.size
    · have hb:=Lib.hid (bl_get s k hlt)
      cases hp:nameB (s[k]).toNat
      · have hcall:=hp ▸ isOfName_any (s[k]).toNat w
        have HP:=Lib.hid hp
        clear hp
        go_wp2_with (go_at_call 190;refine hcall.mono ?_;rintro e w' ⟨rfl,rfl⟩)
        go_ret
        exact ⟨ret_int (by rw [run_stop _ k H.out _ hb.out HP.out]),rfl⟩
      · have hcall:=hp ▸ isOfName_any (s[k]).toNat w
        have HP:=Lib.hid hp
        clear hp
        go_wp2_with (go_at_call 190;refine hcall.mono ?_;rintro e w' ⟨rfl,rfl⟩)
        go_round
        case rel=>exact ⟨k+1,by omega,by go_num,Lib.hid (run_step _ k H.out _ hb.out HP.out)⟩
        case measure=>simp [intOf];omega
    · have hk':k=(bl s).length:=by rw [bl_length];omega
      have HK:=Lib.hid hk'
      clear hk'
      go_wp2
      go_ret
      exact ⟨ret_int (by rw [run_end _ (HK.out ▸ H.out),bl_length]),rfl⟩
set_option maxHeartbeats 400000 in
theorem run_digit (s:ByteArray) (hs:s.size≤9223372036854775806) (w:World) :
    Calls Tryz.prog 185 #[.string s,.func (.func 191) #[] #[]] w fun e w'=>e=.returned (.int .i64 ((((bl s).takeWhile digitB).length:Nat):Int))∧w=w':=by
  go_enter Tryz.func185,Tryz.ntmps185
  go_wp2
  go_loop [8] (fun i=>∃ k:Nat,k≤s.size∧i=.int .i64 k∧Hid (∀ x ∈ (bl s).take k,digitB x=true)) (fun i=>s.size - (intOf i).toNat)
  case atStart=>exact ⟨0,Nat.zero_le _,rfl,Lib.hid (by simp)⟩
  case round =>
    obtain ⟨k,hk,rfl,H⟩:=hrel
    by_cases hlt:k<s.size
    · have hb:=Lib.hid (bl_get s k hlt)
      cases hp:digitB (s[k]).toNat
      · have hcall:=hp ▸ isDigit_any (s[k]).toNat w
        have HP:=Lib.hid hp
        clear hp
        go_wp2_with (go_at_call 191;refine hcall.mono ?_;rintro e w' ⟨rfl,rfl⟩)
        go_ret
        exact ⟨ret_int (by rw [run_stop _ k H.out _ hb.out HP.out]),rfl⟩
      · have hcall:=hp ▸ isDigit_any (s[k]).toNat w
        have HP:=Lib.hid hp
        clear hp
        go_wp2_with (go_at_call 191;refine hcall.mono ?_;rintro e w' ⟨rfl,rfl⟩)
        go_round
        case rel=>exact ⟨k+1,by omega,by go_num,Lib.hid (run_step _ k H.out _ hb.out HP.out)⟩
        case measure=>simp [intOf];omega
    · have hk':k=(bl s).length:=by rw [bl_length];omega
      have HK:=Lib.hid hk'
      clear hk'
      go_wp2
      go_ret
      exact ⟨ret_int (by rw [run_end _ (HK.out ▸ H.out),bl_length]),rfl⟩
set_option maxHeartbeats 400000 in
theorem run_line (s:ByteArray) (hs:s.size≤9223372036854775806) (w:World) :
    Calls Tryz.prog 185 #[.string s,.func (.func 186) #[] #[]] w fun e w'=>e=.returned (.int .i64 ((((bl s).takeWhile inC).length:Nat):Int))∧w=w':=by
  go_enter Tryz.func185,Tryz.ntmps185
  go_wp2
  go_loop [8] (fun i=>∃ k:Nat,k≤s.size∧i=.int .i64 k∧Hid (∀ x ∈ (bl s).take k,inC x=true)) (fun i=>s.size - (intOf i).toNat)
  case atStart=>exact ⟨0,Nat.zero_le _,rfl,Lib.hid (by simp)⟩
  case round =>
    obtain ⟨k,hk,rfl,H⟩:=hrel
    by_cases hlt:k<s.size
    · have hb:=Lib.hid (bl_get s k hlt)
      cases hp:inC (s[k]).toNat
      · have hcall:=hp ▸ isInLine_any (s[k]).toNat w
        have HP:=Lib.hid hp
        clear hp
        go_wp2_with (go_at_call 186;refine hcall.mono ?_;rintro e w' ⟨rfl,rfl⟩)
        go_ret
        exact ⟨ret_int (by rw [run_stop _ k H.out _ hb.out HP.out]),rfl⟩
      · have hcall:=hp ▸ isInLine_any (s[k]).toNat w
        have HP:=Lib.hid hp
        clear hp
        go_wp2_with (go_at_call 186;refine hcall.mono ?_;rintro e w' ⟨rfl,rfl⟩)
        go_round
        case rel=>exact ⟨k+1,by omega,by go_num,Lib.hid (run_step _ k H.out _ hb.out HP.out)⟩
        case measure=>simp [intOf];omega
    · have hk':k=(bl s).length:=by rw [bl_length];omega
      have HK:=Lib.hid hk'
      clear hk'
      go_wp2
      go_ret
      exact ⟨ret_int (by rw [run_end _ (HK.out ▸ H.out),bl_length]),rfl⟩
set_option maxHeartbeats 400000 in
theorem run_blank (s:ByteArray) (hs:s.size≤9223372036854775806) (w:World) :
    Calls Tryz.prog 185 #[.string s,.func (.func 187) #[] #[]] w fun e w'=>e=.returned (.int .i64 ((((bl s).takeWhile blankB).length:Nat):Int))∧w=w':=by
  go_enter Tryz.func185,Tryz.ntmps185
  go_wp2
  go_loop [8] (fun i=>∃ k:Nat,k≤s.size∧i=.int .i64 k∧Hid (∀ x ∈ (bl s).take k,blankB x=true)) (fun i=>s.size - (intOf i).toNat)
  case atStart=>exact ⟨0,Nat.zero_le _,rfl,Lib.hid (by simp)⟩
  case round =>
    obtain ⟨k,hk,rfl,H⟩:=hrel
    by_cases hlt:k<s.size
    · have hb:=Lib.hid (bl_get s k hlt)
      cases hp:blankB (s[k]).toNat
      · have hcall:=hp ▸ isBlank_any (s[k]).toNat w
        have HP:=Lib.hid hp
        clear hp
        go_wp2_with (go_at_call 187;refine hcall.mono ?_;rintro e w' ⟨rfl,rfl⟩)
        go_ret
        exact ⟨ret_int (by rw [run_stop _ k H.out _ hb.out HP.out]),rfl⟩
      · have hcall:=hp ▸ isBlank_any (s[k]).toNat w
        have HP:=Lib.hid hp
        clear hp
        go_wp2_with (go_at_call 187;refine hcall.mono ?_;rintro e w' ⟨rfl,rfl⟩)
        go_round
        case rel=>exact ⟨k+1,by omega,by go_num,Lib.hid (run_step _ k H.out _ hb.out HP.out)⟩
        case measure=>simp [intOf];omega
    · have hk':k=(bl s).length:=by rw [bl_length];omega
      have HK:=Lib.hid hk'
      clear hk'
      go_wp2
      go_ret
      exact ⟨ret_int (by rw [run_end _ (HK.out ▸ H.out),bl_length]),rfl⟩
theorem gap_any (s:ByteArray) (h0:0<s.size) (hs:s.size≤9223372036854775806) (w:World) :
    Calls Tryz.prog 179 #[.string s] w fun e w'=>e=.returned (.int .i64 ((gapL (bl s):Nat):Int))∧w=w':=by
  have hg:=bl_get s 0 h0
  rw [← List.head?_eq_getElem?] at hg
  have h1:=run_line s hs w
  have h2:=run_blank s hs w
  by_cases hc:(s[0]).toNat=35
  · have hn:(((s[0]).toNat:Int) == 35)=true:=by simp;omega
    have hgl:gapL (bl s)=((bl s).takeWhile inC).length:=by rw [gapL,hg,if_pos (by rw [hc])]
    have HG:=Lib.hid hgl
    clear hgl hg hc
    go_enter Tryz.func179,Tryz.ntmps179
    go_wp2_with (go_at_call 185;refine h1.mono ?_;rintro e w' ⟨rfl,rfl⟩)
    go_ret
    exact ⟨ret_int (by rw [HG.out]),rfl⟩
  · have hn:(((s[0]).toNat:Int) == 35)=false:=by simp;omega
    have hgl:gapL (bl s)=((bl s).takeWhile blankB).length:=by rw [gapL,hg,if_neg (by simpa using hc)]
    have HG:=Lib.hid hgl
    clear hgl hg hc
    go_enter Tryz.func179,Tryz.ntmps179
    go_wp2_with (go_at_call 185;refine h2.mono ?_;rintro e w' ⟨rfl,rfl⟩)
    go_ret
    exact ⟨ret_int (by rw [HG.out]),rfl⟩
end Go.Proofs.YtlpdjfimefjmcaaGreatDoor.Q
namespace Go.Proofs.YtlpdjfimefjmcaaGreatDoor.Q
open Go Go.RowKit
def marksL:List (List Nat):=mark1.map (fun c=>[c])++mark2
theorem ne_lit {s:ByteArray} {L:List (List Nat)} {u:List UInt8} (h:bl s ∉ L) (hu:u.map UInt8.toNat ∈ L):(s.toList == u)=false:=by
  rw [beq_eq_false_iff_ne]
  intro e
  rw [Lib.toList_data] at e
  exact h (by unfold bl;rw [e];exact hu)
set_option maxRecDepth 100000 in
set_option maxHeartbeats 1000000 in
theorem isKeyword_no (s:ByteArray) (h:bl s ∉ keysL) (w:World):Calls Tryz.prog 197 #[.string s] w fun e w'=>e=.returned (.bool false)∧w=w':=by
  have e0:(s.toList == [112,114,105,110,99,105,112,97,108])=false:=ne_lit h (by decide)
  have e1:(s.toList == [103,108,111,98,97,108])=false:=ne_lit h (by decide)
  have e2:(s.toList == [97,114,114,97,121])=false:=ne_lit h (by decide)
  have e3:(s.toList == [99,104,97,110,110,101,108])=false:=ne_lit h (by decide)
  have e4:(s.toList == [102,117,110,99])=false:=ne_lit h (by decide)
  have e5:(s.toList == [118,97,114])=false:=ne_lit h (by decide)
  have e6:(s.toList == [105,102])=false:=ne_lit h (by decide)
  have e7:(s.toList == [101,108,115,101])=false:=ne_lit h (by decide)
  have e8:(s.toList == [119,104,105,108,101])=false:=ne_lit h (by decide)
  have e9:(s.toList == [115,101,110,100])=false:=ne_lit h (by decide)
  have e10:(s.toList == [114,101,116,117,114,110])=false:=ne_lit h (by decide)
  clear h
  go_enter Tryz.func197,Tryz.ntmps197
  go_wp2
  go_ret
  exact ⟨rfl,rfl⟩
set_option maxRecDepth 100000 in
set_option maxHeartbeats 1000000 in
theorem isKeyword_yes (s:ByteArray) (h:bl s ∈ keysL) (w:World):Calls Tryz.prog 197 #[.string s] w fun e w'=>e=.returned (.bool true)∧w=w':=by
  simp only [keysL,List.mem_cons,List.not_mem_nil,or_false] at h
  rcases h with h | h | h | h | h | h | h | h | h | h | h
  · obtain rfl:s=⟨#[112,114,105,110,99,105,112,97,108]⟩:=bl_inj (h.trans (by decide))
    clear h
    go_enter Tryz.func197,Tryz.ntmps197
    go_wp2
    go_ret
    exact ⟨rfl,rfl⟩
  · obtain rfl:s=⟨#[103,108,111,98,97,108]⟩:=bl_inj (h.trans (by decide))
    clear h
    go_enter Tryz.func197,Tryz.ntmps197
    go_wp2
    go_ret
    exact ⟨rfl,rfl⟩
  · obtain rfl:s=⟨#[97,114,114,97,121]⟩:=bl_inj (h.trans (by decide))
    clear h
    go_enter Tryz.func197,Tryz.ntmps197
    go_wp2
    go_ret
    exact ⟨rfl,rfl⟩
  · obtain rfl:s=⟨#[99,104,97,110,110,101,108]⟩:=bl_inj (h.trans (by decide))
    clear h
    go_enter Tryz.func197,Tryz.ntmps197
    go_wp2
    go_ret
    exact ⟨rfl,rfl⟩
  · obtain rfl:s=⟨#[102,117,110,99]⟩:=bl_inj (h.trans (by decide))
    clear h
    go_enter Tryz.func197,Tryz.ntmps197
    go_wp2
    go_ret
    exact ⟨rfl,rfl⟩
  · obtain rfl:s=⟨#[118,97,114]⟩:=bl_inj (h.trans (by decide))
    clear h
    go_enter Tryz.func197,Tryz.ntmps197
    go_wp2
    go_ret
    exact ⟨rfl,rfl⟩
  · obtain rfl:s=⟨#[105,102]⟩:=bl_inj (h.trans (by decide))
    clear h
    go_enter Tryz.func197,Tryz.ntmps197
    go_wp2
    go_ret
    exact ⟨rfl,rfl⟩
  · obtain rfl:s=⟨#[101,108,115,101]⟩:=bl_inj (h.trans (by decide))
    clear h
    go_enter Tryz.func197,Tryz.ntmps197
    go_wp2
    go_ret
    exact ⟨rfl,rfl⟩
  · obtain rfl:s=⟨#[119,104,105,108,101]⟩:=bl_inj (h.trans (by decide))
    clear h
    go_enter Tryz.func197,Tryz.ntmps197
    go_wp2
    go_ret
    exact ⟨rfl,rfl⟩
  · obtain rfl:s=⟨#[115,101,110,100]⟩:=bl_inj (h.trans (by decide))
    clear h
    go_enter Tryz.func197,Tryz.ntmps197
    go_wp2
    go_ret
    exact ⟨rfl,rfl⟩
  · obtain rfl:s=⟨#[114,101,116,117,114,110]⟩:=bl_inj (h.trans (by decide))
    clear h
    go_enter Tryz.func197,Tryz.ntmps197
    go_wp2
    go_ret
    exact ⟨rfl,rfl⟩
set_option maxRecDepth 100000 in
set_option maxHeartbeats 1000000 in
theorem isMark_no (s:ByteArray) (h:bl s ∉ marksL) (w:World):Calls Tryz.prog 199 #[.string s] w fun e w'=>e=.returned (.bool false)∧w=w':=by
  have e0:(s.toList == [123])=false:=ne_lit h (by decide)
  have e1:(s.toList == [125])=false:=ne_lit h (by decide)
  have e2:(s.toList == [40])=false:=ne_lit h (by decide)
  have e3:(s.toList == [41])=false:=ne_lit h (by decide)
  have e4:(s.toList == [91])=false:=ne_lit h (by decide)
  have e5:(s.toList == [93])=false:=ne_lit h (by decide)
  have e6:(s.toList == [44])=false:=ne_lit h (by decide)
  have e7:(s.toList == [59])=false:=ne_lit h (by decide)
  have e8:(s.toList == [61])=false:=ne_lit h (by decide)
  have e9:(s.toList == [61,61])=false:=ne_lit h (by decide)
  have e10:(s.toList == [33,61])=false:=ne_lit h (by decide)
  have e11:(s.toList == [60])=false:=ne_lit h (by decide)
  have e12:(s.toList == [60,61])=false:=ne_lit h (by decide)
  have e13:(s.toList == [43])=false:=ne_lit h (by decide)
  have e14:(s.toList == [45])=false:=ne_lit h (by decide)
  have e15:(s.toList == [42])=false:=ne_lit h (by decide)
  have e16:(s.toList == [47])=false:=ne_lit h (by decide)
  have e17:(s.toList == [37])=false:=ne_lit h (by decide)
  have e18:(s.toList == [38])=false:=ne_lit h (by decide)
  have e19:(s.toList == [124])=false:=ne_lit h (by decide)
  have e20:(s.toList == [94])=false:=ne_lit h (by decide)
  have e21:(s.toList == [60,60])=false:=ne_lit h (by decide)
  have e22:(s.toList == [62,62])=false:=ne_lit h (by decide)
  have e23:(s.toList == [33])=false:=ne_lit h (by decide)
  have e24:(s.toList == [126])=false:=ne_lit h (by decide)
  clear h
  go_enter Tryz.func199,Tryz.ntmps199
  go_wp2
  go_ret
  exact ⟨rfl,rfl⟩
set_option maxRecDepth 100000 in
set_option maxHeartbeats 1000000 in
theorem isMark_yes (s:ByteArray) (h:bl s ∈ marksL) (w:World):Calls Tryz.prog 199 #[.string s] w fun e w'=>e=.returned (.bool true)∧w=w':=by
  simp only [marksL,mark1,mark2,List.map_cons,List.map_nil,List.cons_append,List.nil_append,List.mem_cons,List.not_mem_nil,or_false] at h
  rcases h with h | h | h | h | h | h | h | h | h | h | h | h | h | h | h | h | h | h | h | h | h | h | h | h | h
  · obtain rfl:s=⟨#[123]⟩:=bl_inj (h.trans (by decide))
    clear h
    go_enter Tryz.func199,Tryz.ntmps199
    go_wp2
    go_ret
    exact ⟨rfl,rfl⟩
  · obtain rfl:s=⟨#[125]⟩:=bl_inj (h.trans (by decide))
    clear h
    go_enter Tryz.func199,Tryz.ntmps199
    go_wp2
    go_ret
    exact ⟨rfl,rfl⟩
  · obtain rfl:s=⟨#[40]⟩:=bl_inj (h.trans (by decide))
    clear h
    go_enter Tryz.func199,Tryz.ntmps199
    go_wp2
    go_ret
    exact ⟨rfl,rfl⟩
  · obtain rfl:s=⟨#[41]⟩:=bl_inj (h.trans (by decide))
    clear h
    go_enter Tryz.func199,Tryz.ntmps199
    go_wp2
    go_ret
    exact ⟨rfl,rfl⟩
  · obtain rfl:s=⟨#[91]⟩:=bl_inj (h.trans (by decide))
    clear h
    go_enter Tryz.func199,Tryz.ntmps199
    go_wp2
    go_ret
    exact ⟨rfl,rfl⟩
  · obtain rfl:s=⟨#[93]⟩:=bl_inj (h.trans (by decide))
    clear h
    go_enter Tryz.func199,Tryz.ntmps199
    go_wp2
    go_ret
    exact ⟨rfl,rfl⟩
  · obtain rfl:s=⟨#[44]⟩:=bl_inj (h.trans (by decide))
    clear h
    go_enter Tryz.func199,Tryz.ntmps199
    go_wp2
    go_ret
    exact ⟨rfl,rfl⟩
  · obtain rfl:s=⟨#[59]⟩:=bl_inj (h.trans (by decide))
    clear h
    go_enter Tryz.func199,Tryz.ntmps199
    go_wp2
    go_ret
    exact ⟨rfl,rfl⟩
  · obtain rfl:s=⟨#[61]⟩:=bl_inj (h.trans (by decide))
    clear h
    go_enter Tryz.func199,Tryz.ntmps199
    go_wp2
    go_ret
    exact ⟨rfl,rfl⟩
  · obtain rfl:s=⟨#[60]⟩:=bl_inj (h.trans (by decide))
    clear h
    go_enter Tryz.func199,Tryz.ntmps199
    go_wp2
    go_ret
    exact ⟨rfl,rfl⟩
  · obtain rfl:s=⟨#[43]⟩:=bl_inj (h.trans (by decide))
    clear h
    go_enter Tryz.func199,Tryz.ntmps199
    go_wp2
    go_ret
    exact ⟨rfl,rfl⟩
  · obtain rfl:s=⟨#[45]⟩:=bl_inj (h.trans (by decide))
    clear h
    go_enter Tryz.func199,Tryz.ntmps199
    go_wp2
    go_ret
    exact ⟨rfl,rfl⟩
  · obtain rfl:s=⟨#[42]⟩:=bl_inj (h.trans (by decide))
    clear h
    go_enter Tryz.func199,Tryz.ntmps199
    go_wp2
    go_ret
    exact ⟨rfl,rfl⟩
  · obtain rfl:s=⟨#[47]⟩:=bl_inj (h.trans (by decide))
    clear h
    go_enter Tryz.func199,Tryz.ntmps199
    go_wp2
    go_ret
    exact ⟨rfl,rfl⟩
  · obtain rfl:s=⟨#[37]⟩:=bl_inj (h.trans (by decide))
    clear h
    go_enter Tryz.func199,Tryz.ntmps199
    go_wp2
    go_ret
    exact ⟨rfl,rfl⟩
  · obtain rfl:s=⟨#[38]⟩:=bl_inj (h.trans (by decide))
    clear h
    go_enter Tryz.func199,Tryz.ntmps199
    go_wp2
    go_ret
    exact ⟨rfl,rfl⟩
  · obtain rfl:s=⟨#[124]⟩:=bl_inj (h.trans (by decide))
    clear h
    go_enter Tryz.func199,Tryz.ntmps199
    go_wp2
    go_ret
    exact ⟨rfl,rfl⟩
  · obtain rfl:s=⟨#[94]⟩:=bl_inj (h.trans (by decide))
    clear h
    go_enter Tryz.func199,Tryz.ntmps199
    go_wp2
    go_ret
    exact ⟨rfl,rfl⟩
  · obtain rfl:s=⟨#[33]⟩:=bl_inj (h.trans (by decide))
    clear h
    go_enter Tryz.func199,Tryz.ntmps199
    go_wp2
    go_ret
    exact ⟨rfl,rfl⟩
  · obtain rfl:s=⟨#[126]⟩:=bl_inj (h.trans (by decide))
    clear h
    go_enter Tryz.func199,Tryz.ntmps199
    go_wp2
    go_ret
    exact ⟨rfl,rfl⟩
  · obtain rfl:s=⟨#[61,61]⟩:=bl_inj (h.trans (by decide))
    clear h
    go_enter Tryz.func199,Tryz.ntmps199
    go_wp2
    go_ret
    exact ⟨rfl,rfl⟩
  · obtain rfl:s=⟨#[33,61]⟩:=bl_inj (h.trans (by decide))
    clear h
    go_enter Tryz.func199,Tryz.ntmps199
    go_wp2
    go_ret
    exact ⟨rfl,rfl⟩
  · obtain rfl:s=⟨#[60,61]⟩:=bl_inj (h.trans (by decide))
    clear h
    go_enter Tryz.func199,Tryz.ntmps199
    go_wp2
    go_ret
    exact ⟨rfl,rfl⟩
  · obtain rfl:s=⟨#[60,60]⟩:=bl_inj (h.trans (by decide))
    clear h
    go_enter Tryz.func199,Tryz.ntmps199
    go_wp2
    go_ret
    exact ⟨rfl,rfl⟩
  · obtain rfl:s=⟨#[62,62]⟩:=bl_inj (h.trans (by decide))
    clear h
    go_enter Tryz.func199,Tryz.ntmps199
    go_wp2
    go_ret
    exact ⟨rfl,rfl⟩
end Go.Proofs.YtlpdjfimefjmcaaGreatDoor.Q
namespace Go.Proofs.YtlpdjfimefjmcaaGreatDoor.Q
open Go
theorem foldl_bl (l:List UInt8) (acc:Nat):(l.map UInt8.toNat).foldl (fun n d=>10 * n+(d - 48)) acc=l.foldl (fun n c=>10 * n+(c.toNat - 48)) acc:=by
  rw [List.foldl_map]
theorem foldl_ge8 (l:List UInt8) (n:Nat):n≤l.foldl (fun n c=>10 * n+(c.toNat - 48)) n:=by
  rw [← foldl_bl];exact foldl_ge _ _
theorem parseM_digits:∀ (l:List UInt8) (acc:Nat),(∀ c ∈ l,48≤c.toNat∧c.toNat≤57)→acc≤18446744073709551615 →
    Lib.parseUintM 18446744073709551615 acc l=if l.foldl (fun n c=>10 * n+(c.toNat - 48)) acc≤18446744073709551615 then .ok (l.foldl (fun n c=>10 * n+(c.toNat - 48)) acc) else .range
  | [],acc,_,h=>by rw [Lib.parseUintM,List.foldl_nil,if_pos h]
  | c :: r,acc,hd,h=>by
    have hc:=hd c (List.mem_cons_self ..)
    have hg:=foldl_ge8 r (10 * acc+(c.toNat - 48))
    rw [Lib.parseUintM,if_pos hc,List.foldl_cons]
    by_cases h1:1844674407370955162≤acc
    · rw [if_pos h1,if_neg (by omega)]
    · rw [if_neg h1]
      by_cases h2:18446744073709551615<acc * 10+(c.toNat - 48)
      · rw [if_pos h2,if_neg (by omega)]
      · rw [if_neg h2,Nat.mul_comm acc 10,parseM_digits r _ (fun x hx=>hd x (List.mem_cons_of_mem _ hx)) (by omega)]
theorem parse_digits (l:List UInt8) (h0:l ≠ []) (hd:∀ x ∈ l.map UInt8.toNat,digitB x=true) :
    Lib.parseIntB 64 l=if valD (l.map UInt8.toNat)≤most then .ok (valD (l.map UInt8.toNat):Nat) else .range:=by
  have hd':∀ c ∈ l,48≤c.toNat∧c.toNat≤57:=fun c hc=>digit_range (hd _ (List.mem_map_of_mem hc))
  have hm:=parseM_digits l 0 hd' (by omega)
  rw [← foldl_bl] at hm
  change _=if valD (l.map UInt8.toNat)≤_ then Lib.NumEnd.ok (valD (l.map UInt8.toNat)) else _ at hm
  cases l with
  | nil=>exact absurd rfl h0
  | cons c r =>
    have hc:=hd' c (List.mem_cons_self ..)
    rw [Lib.parseIntB]
    simp only [show ¬ c.toNat=43 by omega,show ¬ c.toNat=45 by omega,or_false,if_false,not_false_eq_true,true_and,false_and]
    rw [Lib.parseUintB,if_neg (by simp),show (2 ^ 64 - 1:Nat)=18446744073709551615 by decide,hm]
    generalize valD ((c :: r).map UInt8.toNat)=V
    by_cases h1:V≤18446744073709551615
    · rw [if_pos h1]
      by_cases h2:V≤most
      · simp only [if_pos h2,show ¬ 2 ^ (64 - 1)≤V by simp only [most] at h2;omega,if_false]
      · simp only [if_neg h2,show 2 ^ (64 - 1)≤V by simp only [most] at h2;omega,if_true]
    · rw [if_neg h1,if_neg (by simp only [most];omega)]
end Go.Proofs.YtlpdjfimefjmcaaGreatDoor.Q
namespace Go.Proofs
open Go.Shelf
def Tryz.laysM316_ren:Go.Shelf.Ren:=⟨fun | 316=>178 | n=>n,fun | 9=>9 | 3=>3 | 4=>4 | 37=>214 | 0=>0 | 127=>215 | 5=>5 | n=>n,fun | n=>n⟩
theorem Tryz.laysM316:Go.Proofs.LaysM.n316 Tryz.prog Tryz.laysM316_ren:={
  mixed:=by kernel_rfl
  f316:=Tryz.func178.trans (congrArg some (by kernel_rfl))
  t0:=Tryz.underlying0
  a0:=Tryz.isAgg0
  z0:=Tryz.sizeOf0
  v0:=Tryz.zeroValue0
  t3:=Tryz.underlying3
  a3:=Tryz.isAgg3
  z3:=Tryz.sizeOf3
  v3:=Tryz.zeroValue3
  t4:=Tryz.underlying4
  a4:=Tryz.isAgg4
  z4:=Tryz.sizeOf4
  v4:=Tryz.zeroValue4
  t9:=Tryz.underlying9
  a9:=Tryz.isAgg9
  z9:=Tryz.sizeOf9
  v9:=Tryz.zeroValue9
  t37:=Tryz.underlying214
  a37:=Tryz.isAgg214
  z37:=Tryz.sizeOf214
  v37:=Tryz.zeroValue214
  t127:=Tryz.underlying215
  a127:=Tryz.isAgg215
  z127:=Tryz.sizeOf215
  v127:=Tryz.zeroValue215
  t5:=Tryz.underlying5
  a5:=Tryz.isAgg5
  z5:=Tryz.sizeOf5
  v5:=Tryz.zeroValue5
  i0:=by kernel_rfl
  i3:=by kernel_rfl
  i4:=by kernel_rfl
  i5:=by kernel_rfl
  i9:=by kernel_rfl
  i37:=by kernel_rfl
  i127:=by kernel_rfl }
open Go.RowKit in
theorem Tryz.stringslite_Clone (s:ByteArray) (w:World) (hlim:s.size≤281474976710656) :
    Calls Tryz.prog 178 #[.string s] w fun e w'=>e=.returned (.string s)∧Below w.heap.size w w':=Any.stringslite_Clone Tryz.laysM316 s w hlim
def Tryz.laysC174_ren:Go.Shelf.Ren:=⟨fun | 174=>198 | 247=>205 | 245=>206 | 287=>211 | 279=>212 | 280=>213 | 281=>214 | 282=>215 | 321=>216 | 322=>217 | 316=>178 | 171=>219 | 205=>218 | 243=>220 | 246=>221 | 283=>222 | 284=>223 | 285=>224 | 286=>225 | 129=>227 | 317=>226 | 318=>228 | 319=>229 | 320=>230 | 337=>231 | 338=>232 | n=>n,fun | 9=>9 | 3=>3 | 2=>2 | 75=>219 | 85=>220 | 4=>4 | 167=>232 | 5=>5 | 53=>28 | 175=>233 | 46=>105 | 168=>235 | 37=>214 | 0=>0 | 210=>240 | 21=>21 | 127=>215 | 145=>244 | 143=>242 | 171=>246 | 173=>249 | 212=>252 | 51=>144 | 20=>20 | 213=>253 | 232=>256 | 233=>257 | 80=>186 | n=>n,fun | 15=>0 | 16=>1 | 17=>2 | 18=>3 | 19=>4 | n=>n⟩
theorem Tryz.laysC174:Go.Proofs.LaysC.n174 Tryz.prog Tryz.laysC174_ren:={
  mixed:=by kernel_rfl
  f129:=Tryz.func227.trans (congrArg some (by kernel_rfl))
  f171:=Tryz.func219.trans (congrArg some (by kernel_rfl))
  f174:=Tryz.func198.trans (congrArg some (by kernel_rfl))
  f205:=Tryz.func218.trans (congrArg some (by kernel_rfl))
  f243:=Tryz.func220.trans (congrArg some (by kernel_rfl))
  f245:=Tryz.func206.trans (congrArg some (by kernel_rfl))
  f246:=Tryz.func221.trans (congrArg some (by kernel_rfl))
  f247:=Tryz.func205.trans (congrArg some (by kernel_rfl))
  f279:=Tryz.func212.trans (congrArg some (by kernel_rfl))
  f280:=Tryz.func213.trans (congrArg some (by kernel_rfl))
  f281:=Tryz.func214.trans (congrArg some (by kernel_rfl))
  f282:=Tryz.func215.trans (congrArg some (by kernel_rfl))
  f283:=Tryz.func222.trans (congrArg some (by kernel_rfl))
  f284:=Tryz.func223.trans (congrArg some (by kernel_rfl))
  f285:=Tryz.func224.trans (congrArg some (by kernel_rfl))
  f286:=Tryz.func225.trans (congrArg some (by kernel_rfl))
  f287:=Tryz.func211.trans (congrArg some (by kernel_rfl))
  f316:=Tryz.func178.trans (congrArg some (by kernel_rfl))
  f317:=Tryz.func226.trans (congrArg some (by kernel_rfl))
  f318:=Tryz.func228.trans (congrArg some (by kernel_rfl))
  f319:=Tryz.func229.trans (congrArg some (by kernel_rfl))
  f320:=Tryz.func230.trans (congrArg some (by kernel_rfl))
  f321:=Tryz.func216.trans (congrArg some (by kernel_rfl))
  f322:=Tryz.func217.trans (congrArg some (by kernel_rfl))
  f337:=Tryz.func231.trans (congrArg some (by kernel_rfl))
  f338:=Tryz.func232.trans (congrArg some (by kernel_rfl))
  t0:=Tryz.underlying0
  a0:=Tryz.isAgg0
  z0:=Tryz.sizeOf0
  v0:=Tryz.zeroValue0
  t2:=Tryz.underlying2
  a2:=Tryz.isAgg2
  z2:=Tryz.sizeOf2
  v2:=Tryz.zeroValue2
  t3:=Tryz.underlying3
  a3:=Tryz.isAgg3
  z3:=Tryz.sizeOf3
  v3:=Tryz.zeroValue3
  t4:=Tryz.underlying4
  a4:=Tryz.isAgg4
  z4:=Tryz.sizeOf4
  v4:=Tryz.zeroValue4
  t5:=Tryz.underlying5
  a5:=Tryz.isAgg5
  z5:=Tryz.sizeOf5
  v5:=Tryz.zeroValue5
  t9:=Tryz.underlying9
  a9:=Tryz.isAgg9
  z9:=Tryz.sizeOf9
  v9:=Tryz.zeroValue9
  t20:=Tryz.underlying20
  a20:=Tryz.isAgg20
  z20:=Tryz.sizeOf20
  v20:=Tryz.zeroValue20
  t21:=Tryz.underlying21
  a21:=Tryz.isAgg21
  z21:=Tryz.sizeOf21
  v21:=Tryz.zeroValue21
  t37:=Tryz.underlying214
  a37:=Tryz.isAgg214
  z37:=Tryz.sizeOf214
  v37:=Tryz.zeroValue214
  t46:=Tryz.underlying105
  a46:=Tryz.isAgg105
  z46:=Tryz.sizeOf105
  v46:=Tryz.zeroValue105
  t51:=Tryz.underlying144
  a51:=Tryz.isAgg144
  z51:=Tryz.sizeOf144
  v51:=Tryz.zeroValue144
  t53:=Tryz.underlying28
  a53:=Tryz.isAgg28
  z53:=Tryz.sizeOf28
  v53:=Tryz.zeroValue28
  t75:=Tryz.underlying219
  a75:=Tryz.isAgg219
  z75:=Tryz.sizeOf219
  v75:=Tryz.zeroValue219
  t85:=Tryz.underlying220
  a85:=Tryz.isAgg220
  z85:=Tryz.sizeOf220
  v85:=Tryz.zeroValue220
  t127:=Tryz.underlying215
  a127:=Tryz.isAgg215
  z127:=Tryz.sizeOf215
  v127:=Tryz.zeroValue215
  t143:=Tryz.underlying242
  a143:=Tryz.isAgg242
  z143:=Tryz.sizeOf242
  v143:=Tryz.zeroValue242
  t145:=Tryz.underlying244
  a145:=Tryz.isAgg244
  z145:=Tryz.sizeOf244
  v145:=Tryz.zeroValue244
  t167:=Tryz.underlying232
  a167:=Tryz.isAgg232
  z167:=Tryz.sizeOf232
  v167:=Tryz.zeroValue232
  t168:=Tryz.underlying235
  a168:=Tryz.isAgg235
  z168:=Tryz.sizeOf235
  v168:=Tryz.zeroValue235
  t171:=Tryz.underlying246
  a171:=Tryz.isAgg246
  z171:=Tryz.sizeOf246
  v171:=Tryz.zeroValue246
  t173:=Tryz.underlying249
  a173:=Tryz.isAgg249
  z173:=Tryz.sizeOf249
  v173:=Tryz.zeroValue249
  t175:=Tryz.underlying233
  a175:=Tryz.isAgg233
  z175:=Tryz.sizeOf233
  v175:=Tryz.zeroValue233
  t210:=Tryz.underlying240
  a210:=Tryz.isAgg240
  z210:=Tryz.sizeOf240
  v210:=Tryz.zeroValue240
  t212:=Tryz.underlying252
  a212:=Tryz.isAgg252
  z212:=Tryz.sizeOf252
  v212:=Tryz.zeroValue252
  t213:=Tryz.underlying253
  a213:=Tryz.isAgg253
  z213:=Tryz.sizeOf253
  t232:=Tryz.underlying256
  a232:=Tryz.isAgg256
  z232:=Tryz.sizeOf256
  v232:=Tryz.zeroValue256
  t233:=Tryz.underlying257
  a233:=Tryz.isAgg257
  z233:=Tryz.sizeOf257
  v233:=Tryz.zeroValue257
  g15:=by kernel_rfl
  g16:=by kernel_rfl
  g17:=by kernel_rfl
  g18:=by kernel_rfl
  g19:=by kernel_rfl
  t80:=Tryz.underlying186
  a80:=Tryz.isAgg186
  z80:=Tryz.sizeOf186
  v80:=Tryz.zeroValue186
  i0:=by kernel_rfl
  i2:=by kernel_rfl
  i3:=by kernel_rfl
  i4:=by kernel_rfl
  i5:=by kernel_rfl
  i9:=by kernel_rfl
  i20:=by kernel_rfl
  i21:=by kernel_rfl
  i37:=by kernel_rfl
  i46:=by kernel_rfl
  i51:=by kernel_rfl
  i53:=by kernel_rfl
  i75:=by kernel_rfl
  i80:=by kernel_rfl
  i85:=by kernel_rfl
  i127:=by kernel_rfl
  i143:=by kernel_rfl
  i145:=by kernel_rfl
  i167:=by kernel_rfl
  i168:=by kernel_rfl
  i171:=by kernel_rfl
  i173:=by kernel_rfl
  i175:=by kernel_rfl
  i210:=by kernel_rfl
  i212:=by kernel_rfl
  i232:=by kernel_rfl
  i233:=by kernel_rfl
  m15:=by kernel_rfl
  m16:=by kernel_rfl
  m17:=by kernel_rfl
  m18:=by kernel_rfl
  m19:=by kernel_rfl
  c0:=by kernel_rfl
  c2:=by kernel_rfl
  c3:=by kernel_rfl
  c4:=by kernel_rfl
  c5:=by kernel_rfl
  c9:=by kernel_rfl
  c20:=by kernel_rfl
  c21:=by kernel_rfl
  c37:=by kernel_rfl
  c46:=by kernel_rfl
  c51:=by kernel_rfl
  c53:=by kernel_rfl
  c75:=by kernel_rfl
  c80:=by kernel_rfl
  c85:=by kernel_rfl
  c127:=by kernel_rfl
  c143:=by kernel_rfl
  c145:=by kernel_rfl
  c167:=by kernel_rfl
  c168:=by kernel_rfl
  c171:=by kernel_rfl
  c173:=by kernel_rfl
  c175:=by kernel_rfl
  c210:=by kernel_rfl
  c212:=by kernel_rfl
  c213:=by kernel_rfl
  c232:=by kernel_rfl
  c233:=by kernel_rfl }
open Go.RowKit in
theorem Tryz.strconv_ParseInt_10_at64_ok (s:ByteArray) (hmax:s.size≤9223372036854775806) (v:Int) (h:Lib.parseIntB 64 s.data.toList=.ok v) (w:World) :
    Calls Tryz.prog 198 #[.string s,.int .i64 10,.int .i64 64] w fun e w'=>e=.returned (.tuple #[.int .i64 v,.nilIface])∧(w'=w ∨ ∃ t,w'=Lib.bytesWorld w 5 t):=Any.strconv_ParseInt_10_at64_ok Tryz.laysC174 s hmax v h w
open Go.RowKit in
theorem Tryz.strconv_ParseInt_10_at64_range (s:ByteArray) (hlim:s.size≤281474976710656) (h:Lib.parseIntB 64 s.data.toList=.range) (ev:Value) (w:World) (hv:w.cell? ⟨1,0,none⟩=some ev) (hev:ev=.nilIface ∨ ∃ te pe,ev=.iface te pe) :
    Calls Tryz.prog 198 #[.string s,.int .i64 10,.int .i64 64] w fun e w'=>∃ N,e=.returned (.tuple #[.int .i64 (Lib.intSat 64 s.data.toList),.iface 235 (.pointer (some ⟨N,0,none⟩))])∧w.heap.size≤N∧w'.heap[N]?=some (.cells #[.string ⟨#[80,97,114,115,101,73,110,116]⟩,.string s,ev] 240 (0,0))∧Below w.heap.size w w':=Any.strconv_ParseInt_10_at64_range Tryz.laysC174 s hlim h ev w hv hev
end Go.Proofs
