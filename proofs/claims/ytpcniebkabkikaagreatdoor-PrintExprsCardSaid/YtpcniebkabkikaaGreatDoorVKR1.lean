/- Plain facts on words: what a text's words are, one by one from the left on; a word by itself, or with a blank behind it, is the same word. (No seat's own names: to be renamed to the seat that needs it.) Plain facts on a text's words: all of them, ahead of the first fault; each is good by itself; their texts with blanks between have the same words. (No seat's own names: to be renamed to the seat th -/
import Derived.WalkKit
import Derived.Test.YtpcniebkabkikaaGreatDoorProg
import Derived.Outline
import Derived.Lib.Hide
import Derived.LoopTactic
import Derived.Lib.Strings
import Derived.Lib.ParseIntBCases
import Derived.Shelf.Strings.Builder1
import Derived.Shelf.Strings.Builder2
import Derived.Shelf.Strings.BuilderF
import Derived.Shelf.Strings.BuilderK
import Derived.Shelf.Strconv.Itoa0
import Derived.Shelf.Strconv.Itoa1
import Derived.Shelf.LaysM
import Derived.Shelf.Strconv.Itoa2
import Derived.Shelf.Strconv.Itoa3
import Derived.Shelf.Strconv.Itoa4
import Derived.Shelf.Strconv.ParseIntEmpty
import Derived.Shelf.Strconv.Clone
import Derived.Shelf.Strconv.SyntaxError
import Derived.Shelf.LaysC
import Derived.Shelf.Strconv.ToError
import Derived.Shelf.Strconv.Lower
import Derived.Shelf.Strconv.ParseUint10
import Derived.Shelf.Strconv.ParseUint10Empty
import Derived.Shelf.Strconv.ParseUint10Any
import Derived.Shelf.Strconv.ParseInt10
import Derived.Shelf.Strconv.RangeError
import Derived.Shelf.Strconv.ToErrorRange
import Derived.Shelf.Strconv.ParseUintEmpty
import Derived.Shelf.Strconv.ParseUint10b64
import Derived.Shelf.Strconv.ParseUint10b32
import Derived.Shelf.Strconv.ParseUint10b16
import Derived.Shelf.Strconv.ParseUint10b8
import Derived.Shelf.Strconv.ParseUint10At
import Derived.Shelf.Strconv.ParseInt10At64
import Derived.Shelf.Strconv.ParseInt10At32
import Derived.Shelf.Strconv.ParseInt10At16
import Derived.Shelf.Strconv.ParseInt10At8
import Derived.Shelf.Strconv.ParseInt10All
import Derived.Shelf.Strconv.ParseIntPublic10
import Derived.Shelf.Strings.Prefix
import Derived.Shelf.Bits.Mul64
import Derived.Shelf.Strings.Repeat
import Derived.Shelf.Slices.Turned
import Derived.Shelf.Slices.Equal
import Derived.Ground.SlgnProg
import Derived.Shelf.SlicesE.Equal
import Derived.Below
import Derived.Laws.OwnMore
import Derived.RegionTactic
import Derived.Deep.Draws
namespace Go.Proofs.YtpcniebkabkikaaGreatDoor
def letterB (c:Nat):Bool:=(97≤c && c≤122) || c == 95
def digitB (c:Nat):Bool:=48≤c && c≤57
def blankB (c:Nat):Bool:=c == 9 || c == 10 || c == 13 || c == 32
def nameB (c:Nat):Bool:=letterB c || digitB c
def keysL:List (List Nat):=[[112,114,105,110,99,105,112,97,108],[103,108,111,98,97,108],[97,114,114,97,121],[99,104,97,110,110,101,108],[102,117,110,99],[118,97,114],[105,102],[101,108,115,101],[119,104,105,108,101],[115,101,110,100],[114,101,116,117,114,110]]
def mark1:List Nat:=[123,125,40,41,91,93,44,59,61,60,43,45,42,47,37,38,124,94,33,126]
def mark2:List (List Nat):=[[61,61],[33,61],[60,61],[60,60],[62,62]]
def wordL:List Nat→Nat × Nat
  | []=>(0,0)
  | c :: l =>
    if letterB c then
      let n:=((c :: l).takeWhile nameB).length
      (n,if (c :: l).take n ∈ keysL then 2 else 1)
    else if digitB c then (((c :: l).takeWhile digitB).length,3)
    else if (c :: l).take 2 ∈ mark2 then (2,4)
    else if c ∈ mark1 then (1,4)
    else (0,0)
theorem wordL_le (l:List Nat):(wordL l).1≤l.length:=by
  cases l with
  | nil=>simp [wordL]
  | cons c l =>
    rw [wordL]
    split
    · exact (List.takeWhile_sublist _).length_le
    · split
      · exact (List.takeWhile_sublist _).length_le
      · split
        · rename_i h
          have:((c :: l).take 2).length=2:=by
            have:∀ m ∈ mark2,m.length=2:=by decide
            exact this _ h
          rw [List.length_take] at this
          show 2≤_
          omega
        · split
          · simp
          · simp
theorem takeWhile_stop {p:Nat→Bool}:∀ (t r:List Nat),(∀ x ∈ t,p x=true)→(∀ c,r.head?=some c→p c=false)→(t++r).takeWhile p=t
  | [],r,_,hr=>by
    cases r with
    | nil=>rfl
    | cons c r=>simp [hr c rfl]
  | x :: t,r,ht,hr=>by
    rw [List.cons_append,List.takeWhile_cons,if_pos (ht x (List.mem_cons_self ..)),takeWhile_stop t r (fun y hy=>ht y (List.mem_cons_of_mem _ hy)) hr]
theorem mem_takeWhile {p:Nat→Bool}:∀ (l:List Nat) (x:Nat),x ∈ l.takeWhile p→p x=true
  | [],x,h=>absurd h (by simp)
  | c :: l,x,h=>by
    rw [List.takeWhile_cons] at h
    split at h
    · rename_i hc
      rcases List.mem_cons.1 h with rfl | h
      · exact hc
      · exact mem_takeWhile l x h
    · simp at h
theorem takeWhile_is_take {p:Nat→Bool}:∀ l:List Nat,l.take (l.takeWhile p).length=l.takeWhile p
  | []=>rfl
  | c :: l=>by
    rw [List.takeWhile_cons]
    split
    · rw [List.length_cons,List.take_succ_cons,takeWhile_is_take l]
    · rfl
theorem wordL_again (s:List Nat) (h:(wordL s).1 ≠ 0) (r:List Nat) (hr:r=[] ∨ ∃ r',r=32 :: r'):wordL (s.take (wordL s).1++r)=wordL s:=by
  cases s with
  | nil=>exact absurd rfl h
  | cons c l =>
    have hb:∀ x,r.head?=some x→nameB x=false∧digitB x=false:=by
      intro x hx
      rcases hr with rfl | ⟨r',rfl⟩
      · simp at hx
      · obtain rfl:32=x:=by simpa using hx
        decide
    by_cases hl:letterB c=true
    · have hw:wordL (c :: l)=(((c :: l).takeWhile nameB).length,if (c :: l).take ((c :: l).takeWhile nameB).length ∈ keysL then 2 else 1):=by
        rw [wordL,if_pos hl]
      rw [hw]
      simp only
      rw [takeWhile_is_take]
      have hn:nameB c=true:=by unfold nameB;rw [hl];rfl
      have hc:(c :: l).takeWhile nameB=c :: l.takeWhile nameB:=by rw [List.takeWhile_cons,if_pos hn]
      have hst:((c :: l).takeWhile nameB++r).takeWhile nameB=(c :: l).takeWhile nameB:=takeWhile_stop _ _ (fun x hx=>mem_takeWhile _ x hx) (fun x hx=>(hb x hx).1)
      rw [hc] at hst ⊢
      rw [List.cons_append] at hst ⊢
      rw [wordL,if_pos hl]
      simp only
      rw [hst,← List.cons_append,List.take_left]
    · by_cases hd:digitB c=true
      · have hw:wordL (c :: l)=(((c :: l).takeWhile digitB).length,3):=by rw [wordL,if_neg hl,if_pos hd]
        rw [hw]
        simp only
        rw [takeWhile_is_take]
        have hc:(c :: l).takeWhile digitB=c :: l.takeWhile digitB:=by rw [List.takeWhile_cons,if_pos hd]
        have hst:((c :: l).takeWhile digitB++r).takeWhile digitB=(c :: l).takeWhile digitB:=takeWhile_stop _ _ (fun x hx=>mem_takeWhile _ x hx) (fun x hx=>(hb x hx).2)
        rw [hc] at hst ⊢
        rw [List.cons_append] at hst ⊢
        rw [wordL,if_neg hl,if_pos hd,hst]
      · by_cases h2:(c :: l).take 2 ∈ mark2
        · have hw:wordL (c :: l)=(2,4):=by rw [wordL,if_neg hl,if_neg hd,if_pos h2]
          rw [hw]
          simp only
          obtain ⟨d,l',rfl⟩:∃ d l',l=d :: l':=by
            cases l with
            | nil=>exact absurd h2 (by simp [mark2])
            | cons d l'=>exact ⟨d,l',rfl⟩
          show wordL (c :: d :: r)=(2,4)
          rw [wordL,if_neg hl,if_neg hd,if_pos (by exact h2)]
        · by_cases h1:c ∈ mark1
          · have hw:wordL (c :: l)=(1,4):=by rw [wordL,if_neg hl,if_neg hd,if_neg h2,if_pos h1]
            rw [hw]
            show wordL (c :: r)=(1,4)
            rw [wordL,if_neg hl,if_neg hd,if_neg ?_,if_pos h1]
            rcases hr with rfl | ⟨r',rfl⟩
            · simp [mark2]
            · simp [mark2]
          · exact absurd (by rw [wordL,if_neg hl,if_neg hd,if_neg h2,if_neg h1]) h
end Go.Proofs.YtpcniebkabkikaaGreatDoor
namespace Go.Proofs.YtpcniebkabkikaaGreatDoor
structure Tok where
  kind:Nat
  text:List Nat
  value:Nat
  at_:Nat
deriving DecidableEq
def valD (l:List Nat):Nat:=l.foldl (fun n d=>10 * n+(d - 48)) 0
abbrev most:Nat:=9223372036854775807
def inC (c:Nat):Bool:=c != 10
theorem drop_lt (c:Nat) (r:List Nat) (n:Nat) (h:n ≠ 0):((c :: r).drop n).length<(c :: r).length:=by
  rw [List.length_drop,List.length_cons];omega
theorem dropWhile_lt (r:List Nat):((35 :: r).dropWhile inC).length<(35 :: r).length:=by
  rw [List.dropWhile_cons,if_pos (by decide)]
  have:=(List.dropWhile_sublist inC (l:=r)).length_le
  rw [List.length_cons];omega
def scanL (l:List Nat) (a:Nat):List Tok × Nat × Nat :=
  match l with
  | []=>([],a,0)
  | c :: r =>
    if blankB c then scanL r (a+1)
    else if _h35:c=35 then scanL ((c :: r).dropWhile inC) (a+((c :: r).takeWhile inC).length)
    else if _h0:(wordL (c :: r)).1=0 then ([],a,40)
    else if (wordL (c :: r)).2=1∧32<(wordL (c :: r)).1 then ([],a,3)
    else if (wordL (c :: r)).2=3∧most<valD ((c :: r).take (wordL (c :: r)).1) then ([],a,3)
    else
      (⟨(wordL (c :: r)).2,(c :: r).take (wordL (c :: r)).1,if (wordL (c :: r)).2=3 then valD ((c :: r).take (wordL (c :: r)).1) else 0,a⟩ :: (scanL ((c :: r).drop (wordL (c :: r)).1) (a+(wordL (c :: r)).1)).1,
        (scanL ((c :: r).drop (wordL (c :: r)).1) (a+(wordL (c :: r)).1)).2)
termination_by l.length
decreasing_by
  · simp
  · subst _h35;exact dropWhile_lt r
  · exact drop_lt c r _ _h0
theorem scanL_blank {c:Nat} (r:List Nat) (a:Nat) (h:blankB c=true):scanL (c :: r) a=scanL r (a+1):=by rw [scanL,if_pos h]
structure Good (k:Nat) (t:List Nat) (v:Nat):Prop where
  word:wordL t=(t.length,k)
  ne:t ≠ []
  head:∀ c,t.head?=some c→blankB c=false∧c ≠ 35
  name:¬ (k=1∧32<t.length)
  num:¬ (k=3∧most<valD t)
  val:v=if k=3 then valD t else 0
theorem scanL_good {k v:Nat} {t:List Nat} (h:Good k t v) (r:List Nat) (hr:r=[] ∨ ∃ r',r=32 :: r') (a:Nat) :
    scanL (t++r) a=(⟨k,t,v,a⟩ :: (scanL r (a+t.length)).1,(scanL r (a+t.length)).2):=by
  obtain ⟨hw,hs,hh,hn,hu,hv⟩:=h
  have hag:wordL (t++r)=(t.length,k):=by
    have:=wordL_again t (by rw [hw];exact fun e=>hs (List.eq_nil_of_length_eq_zero e)) r hr
    rw [hw] at this
    simpa using this
  cases t with
  | nil=>exact absurd rfl hs
  | cons c t =>
    obtain ⟨h1,h2⟩:=hh c rfl
    have htk:((c :: t)++r).take (c :: t).length=c :: t:=List.take_left
    have hdr:((c :: t)++r).drop (c :: t).length=r:=List.drop_left
    rw [List.cons_append] at hag htk hdr ⊢
    rw [scanL,if_neg (by rw [h1];simp),dif_neg h2,hag,dif_neg (by simp),if_neg hn]
    simp only
    rw [htk,if_neg hu,hdr,hv]
theorem good_of {s:List Nat} (hs:(wordL s).1 ≠ 0) (hh:∀ c,s.head?=some c→blankB c=false∧c ≠ 35) (hn:¬ ((wordL s).2=1∧32<(wordL s).1)) (hu:¬ ((wordL s).2=3∧most<valD (s.take (wordL s).1))) :
    Good (wordL s).2 (s.take (wordL s).1) (if (wordL s).2=3 then valD (s.take (wordL s).1) else 0):=by
  have hle:=wordL_le s
  have hlen:(s.take (wordL s).1).length=(wordL s).1:=by rw [List.length_take];omega
  have hag:=wordL_again s hs [] (.inl rfl)
  rw [List.append_nil] at hag
  refine ⟨by rw [hag,hlen],fun e=>hs (by rw [← hlen,e];rfl),fun c hc=>?_,by rw [hlen];exact hn,hu,rfl⟩
  cases s with
  | nil=>simp at hc
  | cons d s =>
    obtain ⟨n,hn'⟩:∃ n,(wordL (d :: s)).1=n+1:=⟨(wordL (d :: s)).1 - 1,by omega⟩
    rw [hn',List.take_succ_cons] at hc
    obtain rfl:d=c:=by simpa using hc
    exact hh d rfl
theorem scanL_all:∀ (N:Nat) (l:List Nat),l.length≤N→∀ a,∀ t ∈ (scanL l a).1,Good t.kind t.text t.value
  | _,[],_,a,t,ht=>by rw [scanL] at ht;exact absurd ht (by simp)
  | 0,c :: r,h,_,_,_=>absurd h (by simp)
  | N+1,c :: r,h,a,t,ht=>by
    have hr:r.length≤N:=by simpa using h
    rw [scanL] at ht
    split at ht
    · exact scanL_all N r hr _ t ht
    · rename_i hb
      split at ht
      · rename_i h35
        subst h35
        exact scanL_all N _ (by have:=dropWhile_lt r;rw [List.length_cons] at this;omega) _ t ht
      · rename_i h35
        split at ht
        · exact absurd ht (by simp)
        · rename_i h0
          split at ht
          · exact absurd ht (by simp)
          · rename_i hn
            split at ht
            · exact absurd ht (by simp)
            · rename_i hu
              rcases List.mem_cons.1 ht with rfl | ht
              · refine good_of h0 (fun d hd=>?_) hn hu
                obtain rfl:c=d:=by simpa using hd
                exact ⟨by simpa using hb,h35⟩
              · exact scanL_all N _ (by have:=drop_lt c r _ h0;rw [List.length_cons] at this;omega) _ t ht
end Go.Proofs.YtpcniebkabkikaaGreatDoor
namespace Go.Proofs.YtpcniebkabkikaaGreatDoor
open Go Go.RowKit
theorem ret_bool {a b:Bool} (h:a=b):Ending.returned (.bool a)=.returned (.bool b):=by rw [h]
theorem ret_int {k:IntKind} {a b:Int} (h:a=b):Ending.returned (.int k a)=.returned (.int k b):=by rw [h]
theorem letterB_iff (c:Nat):letterB c=true ↔ (97≤c∧c≤122) ∨ c=95:=by simp [letterB]
theorem digitB_iff (c:Nat):digitB c=true ↔ 48≤c∧c≤57:=by simp [digitB]
theorem blankB_iff (c:Nat):blankB c=true ↔ c=9 ∨ c=10 ∨ c=13 ∨ c=32:=by simp [blankB,or_assoc]
theorem isLetter_any (c:Nat) (w:World):Calls Tryz.prog 215 #[.int .u8 (c:Int)] w fun e w'=>e=.returned (.bool (letterB c))∧w=w':=by
  have hc:(97≤c∧c≤122) ∨ c<97 ∨ 122<c:=by omega
  rcases hc with ⟨h1,h2⟩ | h1 | h1
  all_goals
    go_enter Tryz.func215,Tryz.ntmps215
    go_wp2
    all_goals
      go_ret
      exact ⟨ret_bool (by rw [Bool.eq_iff_iff,letterB_iff];simp;omega),rfl⟩
theorem letter_any (c:Nat) (w:World):Calls Tryz.prog 245 #[.int .u8 (c:Int)] w fun e w'=>e=.returned (.bool (letterB c))∧w=w':=by
  have hc:(97≤c∧c≤122) ∨ c<97 ∨ 122<c:=by omega
  rcases hc with ⟨h1,h2⟩ | h1 | h1
  all_goals
    go_enter Tryz.func245,Tryz.ntmps245
    go_wp2
    all_goals
      go_ret
      exact ⟨ret_bool (by rw [Bool.eq_iff_iff,letterB_iff];simp;omega),rfl⟩
theorem isDigit_any (c:Nat) (w:World):Calls Tryz.prog 219 #[.int .u8 (c:Int)] w fun e w'=>e=.returned (.bool (digitB c))∧w=w':=by
  have hc:(48≤c∧c≤57) ∨ c<48 ∨ 57<c:=by omega
  rcases hc with ⟨h1,h2⟩ | h1 | h1
  all_goals
    go_enter Tryz.func219,Tryz.ntmps219
    go_wp2
    all_goals
      go_ret
      exact ⟨ret_bool (by rw [Bool.eq_iff_iff,digitB_iff];simp;omega),rfl⟩
theorem digit_any (c:Nat) (w:World):Calls Tryz.prog 246 #[.int .u8 (c:Int)] w fun e w'=>e=.returned (.bool (digitB c))∧w=w':=by
  have hc:(48≤c∧c≤57) ∨ c<48 ∨ 57<c:=by omega
  rcases hc with ⟨h1,h2⟩ | h1 | h1
  all_goals
    go_enter Tryz.func246,Tryz.ntmps246
    go_wp2
    all_goals
      go_ret
      exact ⟨ret_bool (by rw [Bool.eq_iff_iff,digitB_iff];simp;omega),rfl⟩
theorem isBlank_any (c:Nat) (w:World):Calls Tryz.prog 255 #[.int .u8 (c:Int)] w fun e w'=>e=.returned (.bool (blankB c))∧w=w':=by
  go_enter Tryz.func255,Tryz.ntmps255
  go_wp2
  all_goals
    go_ret
    exact ⟨ret_bool (by rw [Bool.eq_iff_iff,blankB_iff];simp;omega),rfl⟩
theorem blank_any (c:Nat) (w:World):Calls Tryz.prog 210 #[.int .u8 (c:Int)] w fun e w'=>e=.returned (.bool (blankB c))∧w=w':=by
  go_enter Tryz.func210,Tryz.ntmps210
  go_wp2
  all_goals
    go_ret
    exact ⟨ret_bool (by rw [Bool.eq_iff_iff,blankB_iff];simp;omega),rfl⟩
theorem isInLine_any (c:Nat) (w:World):Calls Tryz.prog 254 #[.int .u8 (c:Int)] w fun e w'=>e=.returned (.bool (inC c))∧w=w':=by
  go_enter Tryz.func254,Tryz.ntmps254
  go_wp2
  go_ret
  exact ⟨ret_bool (by rw [Bool.eq_iff_iff];simp [inC];omega),rfl⟩
theorem isOfName_any (c:Nat) (w:World):Calls Tryz.prog 218 #[.int .u8 (c:Int)] w fun e w'=>e=.returned (.bool (nameB c))∧w=w':=by
  cases h:letterB c
  · have h1:=h ▸ isLetter_any c w
    go_enter Tryz.func218,Tryz.ntmps218
    go_wp2_with (first | (go_at_call 215;refine h1.mono ?_;rintro e w' ⟨rfl,rfl⟩) | (go_at_call 219;refine (isDigit_any c _).mono ?_;rintro e w' ⟨rfl,rfl⟩))
    go_ret
    exact ⟨ret_bool (by simp [nameB,h]),rfl⟩
  · have h1:=h ▸ isLetter_any c w
    go_enter Tryz.func218,Tryz.ntmps218
    go_wp2_with (first | (go_at_call 215;refine h1.mono ?_;rintro e w' ⟨rfl,rfl⟩) | (go_at_call 219;refine (isDigit_any c _).mono ?_;rintro e w' ⟨rfl,rfl⟩))
    go_ret
    exact ⟨ret_bool (by simp [nameB,h]),rfl⟩
end Go.Proofs.YtpcniebkabkikaaGreatDoor
namespace Go.Proofs.YtpcniebkabkikaaGreatDoor
theorem valD_snoc (l:List Nat) (d:Nat):valD (l++[d])=10 * valD l+(d - 48):=by simp [valD,List.foldl_append]
theorem valD_take (l:List Nat) (i:Nat) (h:i<l.length):valD (l.take (i+1))=10 * valD (l.take i)+(l.getD i 0 - 48):=by
  rw [List.take_succ_eq_append_getElem h,valD_snoc,List.getD_eq_getElem?_getD,List.getElem?_eq_getElem h];rfl
theorem foldl_ge:∀ (l:List Nat) (n:Nat),n≤l.foldl (fun n d=>10 * n+(d - 48)) n
  | [],n=>Nat.le_refl _
  | d :: l,n=>by
    have:=foldl_ge l (10 * n+(d - 48))
    rw [List.foldl_cons];omega
theorem valD_mono (l m:List Nat):valD l≤valD (l++m):=by
  unfold valD
  rw [List.foldl_append]
  exact foldl_ge m _
theorem valD_take_le (l:List Nat) (i:Nat):valD (l.take i)≤valD l:=by
  have:=valD_mono (l.take i) (l.drop i)
  rwa [List.take_append_drop] at this
theorem too_great (n d:Nat) (hd:d≤9):(most - d) / 10<n ↔ most<10 * n+d:=by
  simp only [most];omega
theorem digit_range {c:Nat} (h:digitB c=true):48≤c∧c≤57:=by
  unfold digitB at h
  simpa using h
theorem scanL_nil (a:Nat):scanL [] a=([],a,0):=by rw [scanL]
end Go.Proofs.YtpcniebkabkikaaGreatDoor
namespace Go.Proofs.YtpcniebkabkikaaGreatDoor
open Go
def errL (l:List Nat):Nat :=
  if (wordL l).1=0 then 40 else if (wordL l).2=1∧32<(wordL l).1 then 3 else if (wordL l).2=3∧most<valD (l.take (wordL l).1) then 3 else 0
def valL (l:List Nat):Nat:=if (wordL l).2=3 then valD (l.take (wordL l).1) else 0
def gapL (l:List Nat):Nat:=if l.head?=some 35 then (l.takeWhile inC).length else (l.takeWhile blankB).length
theorem drop_takeWhile {p:Nat→Bool}:∀ l:List Nat,l.drop (l.takeWhile p).length=l.dropWhile p
  | []=>rfl
  | c :: r=>by
    rw [List.takeWhile_cons,List.dropWhile_cons]
    split
    · rw [List.length_cons,List.drop_succ_cons,drop_takeWhile r]
    · rfl
theorem scan_blanks:∀ (l:List Nat) (a:Nat),scanL l a=scanL (l.dropWhile blankB) (a+(l.takeWhile blankB).length)
  | [],a=>by simp
  | c :: r,a=>by
    by_cases h:blankB c=true
    · rw [scanL_blank r a h,scan_blanks r (a+1),List.dropWhile_cons,if_pos h,List.takeWhile_cons,if_pos h,List.length_cons]
      congr 1;omega
    · rw [List.dropWhile_cons,if_neg h,List.takeWhile_cons,if_neg h];rfl
theorem scan_comment (r:List Nat) (a:Nat):scanL (35 :: r) a=scanL ((35 :: r).dropWhile inC) (a+((35 :: r).takeWhile inC).length):=by
  rw [scanL,if_neg (by decide),dif_pos rfl]
theorem scan_gap (l:List Nat) (a:Nat):scanL l a=scanL (l.drop (gapL l)) (a+gapL l):=by
  unfold gapL
  split
  · rename_i h
    cases l with
    | nil=>simp at h
    | cons c r =>
      obtain rfl:c=35:=by simpa using h
      rw [drop_takeWhile]
      exact scan_comment r a
  · rw [drop_takeWhile]
    exact scan_blanks l a
theorem no_gap {c:Nat} {r:List Nat} (h:gapL (c :: r)=0):blankB c=false∧c ≠ 35:=by
  unfold gapL at h
  split at h
  · rename_i h35
    obtain rfl:c=35:=by simpa using h35
    rw [List.takeWhile_cons,if_pos (by decide)] at h
    simp at h
  · rename_i h35
    refine ⟨?_,by simpa using h35⟩
    rw [List.takeWhile_cons] at h
    split at h
    · simp at h
    · rename_i hb;simpa using hb
theorem scan_err {c:Nat} {r:List Nat} (a:Nat) (h:blankB c=false) (h35:c ≠ 35) (he:errL (c :: r) ≠ 0):scanL (c :: r) a=([],a,errL (c :: r)):=by
  unfold errL at he ⊢
  rw [scanL,if_neg (by rw [h];simp),dif_neg h35]
  split
  · rfl
  · rename_i h0
    rw [if_neg h0] at he
    split
    · rfl
    · rename_i h1
      rw [if_neg h1] at he
      split
      · rfl
      · rename_i h2;rw [if_neg h2] at he;exact absurd rfl he
theorem scan_word {c:Nat} {r:List Nat} (a:Nat) (h:blankB c=false) (h35:c ≠ 35) (he:errL (c :: r)=0) :
    scanL (c :: r) a=(⟨(wordL (c :: r)).2,(c :: r).take (wordL (c :: r)).1,valL (c :: r),a⟩ :: (scanL ((c :: r).drop (wordL (c :: r)).1) (a+(wordL (c :: r)).1)).1,(scanL ((c :: r).drop (wordL (c :: r)).1) (a+(wordL (c :: r)).1)).2):=by
  unfold errL at he
  rw [scanL,if_neg (by rw [h];simp),dif_neg h35]
  split
  · rename_i h0;rw [if_pos h0] at he;exact absurd he (by decide)
  · rename_i h0
    rw [if_neg h0] at he
    split
    · rename_i h1;rw [if_pos h1] at he;exact absurd he (by decide)
    · rename_i h1
      rw [if_neg h1] at he
      split
      · rename_i h2;rw [if_pos h2] at he;exact absurd he (by decide)
      · rfl
theorem errL_word {l:List Nat} (he:errL l=0):(wordL l).1 ≠ 0:=by
  intro h
  rw [errL,if_pos h] at he
  exact absurd he (by decide)
def itemsOf (r:List Tok × Nat × Nat):List (Tok × Nat):=r.1.map (fun t=>(t,0))++if r.2.2=0 then [] else [(⟨0,[],0,r.2.1⟩,r.2.2)]
theorem items_word {c:Nat} {r:List Nat} (a:Nat) (h:blankB c=false) (h35:c ≠ 35) (he:errL (c :: r)=0) :
    itemsOf (scanL (c :: r) a)=(⟨(wordL (c :: r)).2,(c :: r).take (wordL (c :: r)).1,valL (c :: r),a⟩,0) :: itemsOf (scanL ((c :: r).drop (wordL (c :: r)).1) (a+(wordL (c :: r)).1)):=by
  rw [scan_word a h h35 he];rfl
theorem items_err {c:Nat} {r:List Nat} (a:Nat) (h:blankB c=false) (h35:c ≠ 35) (he:errL (c :: r) ≠ 0) :
    itemsOf (scanL (c :: r) a)=[(⟨0,[],0,a⟩,errL (c :: r))]:=by
  rw [scan_err a h h35 he,itemsOf];simp [he]
theorem items_nil (a:Nat):itemsOf (scanL [] a)=[]:=by rw [scanL];rfl
theorem items_gap (l:List Nat) (a:Nat):itemsOf (scanL l a)=itemsOf (scanL (l.drop (gapL l)) (a+gapL l)):=by rw [← scan_gap]
theorem scan_count:∀ (N:Nat) (l:List Nat),l.length≤N→∀ a,(scanL l a).1.length≤l.length
  | N,l,h,a=>by
    cases l with
    | nil=>rw [scanL];exact Nat.le_refl _
    | cons c r =>
      by_cases hb:blankB c=true
      · cases N with
        | zero=>simp at h
        | succ N =>
          rw [scanL_blank r a hb]
          have:=scan_count N r (by simpa using h) (a+1)
          rw [List.length_cons];omega
      · have hb:blankB c=false:=by simpa using hb
        by_cases h35:c=35
        · cases N with
          | zero=>simp at h
          | succ N =>
            subst h35
            rw [scan_comment]
            have hl:=dropWhile_lt r
            have:=scan_count N ((35 :: r).dropWhile inC) (by rw [List.length_cons] at h hl;omega) (a+((35 :: r).takeWhile inC).length)
            omega
        · by_cases he:errL (c :: r)=0
          · cases N with
            | zero=>simp at h
            | succ N =>
              rw [scan_word a hb h35 he]
              have hl:=drop_lt c r _ (errL_word he)
              have:=scan_count N ((c :: r).drop (wordL (c :: r)).1) (by rw [List.length_cons] at h hl;omega) (a+(wordL (c :: r)).1)
              show _+1≤_
              omega
          · rw [scan_err a hb h35 he];simp
end Go.Proofs.YtpcniebkabkikaaGreatDoor
namespace Go.Proofs.YtpcniebkabkikaaGreatDoor
open Go Go.RowKit
def bl (s:ByteArray):List Nat:=s.data.toList.map UInt8.toNat
theorem bl_length (s:ByteArray):(bl s).length=s.size:=by simp [bl]
theorem bl_get (s:ByteArray) (i:Nat) (h:i<s.size):(bl s)[i]?=some (s[i]).toNat:=by
  have h':i<s.data.toList.length:=by simpa using h
  rw [bl,List.getElem?_map,List.getElem?_eq_getElem h'];rfl
theorem bl_getD (s:ByteArray) (i:Nat) (h:i<s.size):(bl s).getD i 0=(s[i]).toNat:=by
  rw [List.getD_eq_getElem?_getD,bl_get s i h];rfl
theorem bl_extract (s:ByteArray) (a b:Nat):bl (s.extract a b)=((bl s).take b).drop a:=by
  unfold bl
  rw [ByteArray.data_extract,Array.toList_extract,List.extract_eq_take_drop,List.map_take,List.map_drop,List.drop_take]
theorem bl_inj {s t:ByteArray} (h:bl s=bl t):s=t:=by
  unfold bl at h
  have:s.data.toList=t.data.toList:=(List.map_inj_right (fun a b h=>UInt8.toNat_inj.1 h)).1 h
  apply ByteArray.ext
  exact Array.ext' this
theorem run_step {p:Nat→Bool} (l:List Nat) (k:Nat) (h:∀ x ∈ l.take k,p x=true) (c:Nat) (hc:l[k]?=some c) (hp:p c=true):∀ x ∈ l.take (k+1),p x=true:=by
  rw [List.take_add_one,hc]
  intro x hx
  rcases List.mem_append.1 hx with h1 | h1
  · exact h x h1
  · obtain rfl:x=c:=by simpa using h1
    exact hp
theorem run_stop {p:Nat→Bool} (l:List Nat) (k:Nat) (h:∀ x ∈ l.take k,p x=true) (c:Nat) (hc:l[k]?=some c) (hp:p c=false):(l.takeWhile p).length=k:=by
  have hk:k<l.length:=(List.getElem?_eq_some_iff.1 hc).1
  have h2:l=l.take k++l.drop k:=(List.take_append_drop k l).symm
  have hd:(l.drop k).head?=some c:=by rw [List.head?_drop];exact hc
  rw [h2, takeWhile_stop _ _ h (fun d hd' => by rw [hd] at hd'; obtain rfl : c = d := by simpa using hd'
                                                exact hp),List.length_take]
  omega
theorem run_end {p:Nat→Bool} (l:List Nat) (h:∀ x ∈ l.take l.length,p x=true):(l.takeWhile p).length=l.length:=by
  rw [List.take_length] at h
  have:=takeWhile_stop l [] h (by simp)
  rw [List.append_nil] at this
  rw [this]
set_option maxHeartbeats 400000 in
theorem run_name (s:ByteArray) (hs:s.size≤9223372036854775806) (w:World) :
    Calls Tryz.prog 217 #[.string s,.func (.func 218) #[] #[]] w fun e w'=>e=.returned (.int .i64 ((((bl s).takeWhile nameB).length:Nat):Int))∧w=w':=by
  go_enter Tryz.func217,Tryz.ntmps217
  go_wp2
  go_loop [8] (fun i=>∃ k:Nat,k≤s.size∧i=.int .i64 k∧Hid (∀ x ∈ (bl s).take k,nameB x=true)) (fun i=>s.size - (intOf i).toNat)
  case atStart=>exact ⟨0,Nat.zero_le _,rfl,Lib.hid (by simp)⟩
  case round =>
    obtain ⟨k,hk,rfl,H⟩:=hrel
    by_cases hlt:k<s.size
    · have hb:=Lib.hid (bl_get s k hlt)
      cases hp:nameB (s[k]).toNat
      · have hcall:=hp ▸ isOfName_any (s[k]).toNat w
        have HP:=Lib.hid hp
        clear hp
        go_wp2_with (go_at_call 218;refine hcall.mono ?_;rintro e w' ⟨rfl,rfl⟩)
        go_ret
        exact ⟨ret_int (by rw [run_stop _ k H.out _ hb.out HP.out]),rfl⟩
      · have hcall:=hp ▸ isOfName_any (s[k]).toNat w
        have HP:=Lib.hid hp
        clear hp
        go_wp2_with (go_at_call 218;refine hcall.mono ?_;rintro e w' ⟨rfl,rfl⟩)
        go_round
        case rel=>exact ⟨k+1,by omega,by go_num,Lib.hid (run_step _ k H.out _ hb.out HP.out)⟩
        case measure=>simp [intOf];omega
    · have hk':k=(bl s).length:=by rw [bl_length];omega
      have HK:=Lib.hid hk'
      clear hk'
      go_wp2
      go_ret
      exact ⟨ret_int (by rw [run_end _ (HK.out ▸ H.out),bl_length]),rfl⟩
set_option maxHeartbeats 400000 in
theorem run_digit (s:ByteArray) (hs:s.size≤9223372036854775806) (w:World) :
    Calls Tryz.prog 217 #[.string s,.func (.func 219) #[] #[]] w fun e w'=>e=.returned (.int .i64 ((((bl s).takeWhile digitB).length:Nat):Int))∧w=w':=by
  go_enter Tryz.func217,Tryz.ntmps217
  go_wp2
  go_loop [8] (fun i=>∃ k:Nat,k≤s.size∧i=.int .i64 k∧Hid (∀ x ∈ (bl s).take k,digitB x=true)) (fun i=>s.size - (intOf i).toNat)
  case atStart=>exact ⟨0,Nat.zero_le _,rfl,Lib.hid (by simp)⟩
  case round =>
    obtain ⟨k,hk,rfl,H⟩:=hrel
    by_cases hlt:k<s.size
    · have hb:=Lib.hid (bl_get s k hlt)
      cases hp:digitB (s[k]).toNat
      · have hcall:=hp ▸ isDigit_any (s[k]).toNat w
        have HP:=Lib.hid hp
        clear hp
        go_wp2_with (go_at_call 219;refine hcall.mono ?_;rintro e w' ⟨rfl,rfl⟩)
        go_ret
        exact ⟨ret_int (by rw [run_stop _ k H.out _ hb.out HP.out]),rfl⟩
      · have hcall:=hp ▸ isDigit_any (s[k]).toNat w
        have HP:=Lib.hid hp
        clear hp
        go_wp2_with (go_at_call 219;refine hcall.mono ?_;rintro e w' ⟨rfl,rfl⟩)
        go_round
        case rel=>exact ⟨k+1,by omega,by go_num,Lib.hid (run_step _ k H.out _ hb.out HP.out)⟩
        case measure=>simp [intOf];omega
    · have hk':k=(bl s).length:=by rw [bl_length];omega
      have HK:=Lib.hid hk'
      clear hk'
      go_wp2
      go_ret
      exact ⟨ret_int (by rw [run_end _ (HK.out ▸ H.out),bl_length]),rfl⟩
set_option maxHeartbeats 400000 in
theorem run_line (s:ByteArray) (hs:s.size≤9223372036854775806) (w:World) :
    Calls Tryz.prog 217 #[.string s,.func (.func 254) #[] #[]] w fun e w'=>e=.returned (.int .i64 ((((bl s).takeWhile inC).length:Nat):Int))∧w=w':=by
  go_enter Tryz.func217,Tryz.ntmps217
  go_wp2
  go_loop [8] (fun i=>∃ k:Nat,k≤s.size∧i=.int .i64 k∧Hid (∀ x ∈ (bl s).take k,inC x=true)) (fun i=>s.size - (intOf i).toNat)
  case atStart=>exact ⟨0,Nat.zero_le _,rfl,Lib.hid (by simp)⟩
  case round =>
    obtain ⟨k,hk,rfl,H⟩:=hrel
    by_cases hlt:k<s.size
    · have hb:=Lib.hid (bl_get s k hlt)
      cases hp:inC (s[k]).toNat
      · have hcall:=hp ▸ isInLine_any (s[k]).toNat w
        have HP:=Lib.hid hp
        clear hp
        go_wp2_with (go_at_call 254;refine hcall.mono ?_;rintro e w' ⟨rfl,rfl⟩)
        go_ret
        exact ⟨ret_int (by rw [run_stop _ k H.out _ hb.out HP.out]),rfl⟩
      · have hcall:=hp ▸ isInLine_any (s[k]).toNat w
        have HP:=Lib.hid hp
        clear hp
        go_wp2_with (go_at_call 254;refine hcall.mono ?_;rintro e w' ⟨rfl,rfl⟩)
        go_round
        case rel=>exact ⟨k+1,by omega,by go_num,Lib.hid (run_step _ k H.out _ hb.out HP.out)⟩
        case measure=>simp [intOf];omega
    · have hk':k=(bl s).length:=by rw [bl_length];omega
      have HK:=Lib.hid hk'
      clear hk'
      go_wp2
      go_ret
      exact ⟨ret_int (by rw [run_end _ (HK.out ▸ H.out),bl_length]),rfl⟩
set_option maxHeartbeats 400000 in
theorem run_blank (s:ByteArray) (hs:s.size≤9223372036854775806) (w:World) :
    Calls Tryz.prog 217 #[.string s,.func (.func 255) #[] #[]] w fun e w'=>e=.returned (.int .i64 ((((bl s).takeWhile blankB).length:Nat):Int))∧w=w':=by
  go_enter Tryz.func217,Tryz.ntmps217
  go_wp2
  go_loop [8] (fun i=>∃ k:Nat,k≤s.size∧i=.int .i64 k∧Hid (∀ x ∈ (bl s).take k,blankB x=true)) (fun i=>s.size - (intOf i).toNat)
  case atStart=>exact ⟨0,Nat.zero_le _,rfl,Lib.hid (by simp)⟩
  case round =>
    obtain ⟨k,hk,rfl,H⟩:=hrel
    by_cases hlt:k<s.size
    · have hb:=Lib.hid (bl_get s k hlt)
      cases hp:blankB (s[k]).toNat
      · have hcall:=hp ▸ isBlank_any (s[k]).toNat w
        have HP:=Lib.hid hp
        clear hp
        go_wp2_with (go_at_call 255;refine hcall.mono ?_;rintro e w' ⟨rfl,rfl⟩)
        go_ret
        exact ⟨ret_int (by rw [run_stop _ k H.out _ hb.out HP.out]),rfl⟩
      · have hcall:=hp ▸ isBlank_any (s[k]).toNat w
        have HP:=Lib.hid hp
        clear hp
        go_wp2_with (go_at_call 255;refine hcall.mono ?_;rintro e w' ⟨rfl,rfl⟩)
        go_round
        case rel=>exact ⟨k+1,by omega,by go_num,Lib.hid (run_step _ k H.out _ hb.out HP.out)⟩
        case measure=>simp [intOf];omega
    · have hk':k=(bl s).length:=by rw [bl_length];omega
      have HK:=Lib.hid hk'
      clear hk'
      go_wp2
      go_ret
      exact ⟨ret_int (by rw [run_end _ (HK.out ▸ H.out),bl_length]),rfl⟩
theorem gap_any (s:ByteArray) (h0:0<s.size) (hs:s.size≤9223372036854775806) (w:World) :
    Calls Tryz.prog 223 #[.string s] w fun e w'=>e=.returned (.int .i64 ((gapL (bl s):Nat):Int))∧w=w':=by
  have hg:=bl_get s 0 h0
  rw [← List.head?_eq_getElem?] at hg
  have h1:=run_line s hs w
  have h2:=run_blank s hs w
  by_cases hc:(s[0]).toNat=35
  · have hn:(((s[0]).toNat:Int) == 35)=true:=by simp;omega
    have hgl:gapL (bl s)=((bl s).takeWhile inC).length:=by rw [gapL,hg,if_pos (by rw [hc])]
    have HG:=Lib.hid hgl
    clear hgl hg hc
    go_enter Tryz.func223,Tryz.ntmps223
    go_wp2_with (go_at_call 217;refine h1.mono ?_;rintro e w' ⟨rfl,rfl⟩)
    go_ret
    exact ⟨ret_int (by rw [HG.out]),rfl⟩
  · have hn:(((s[0]).toNat:Int) == 35)=false:=by simp;omega
    have hgl:gapL (bl s)=((bl s).takeWhile blankB).length:=by rw [gapL,hg,if_neg (by simpa using hc)]
    have HG:=Lib.hid hgl
    clear hgl hg hc
    go_enter Tryz.func223,Tryz.ntmps223
    go_wp2_with (go_at_call 217;refine h2.mono ?_;rintro e w' ⟨rfl,rfl⟩)
    go_ret
    exact ⟨ret_int (by rw [HG.out]),rfl⟩
end Go.Proofs.YtpcniebkabkikaaGreatDoor
namespace Go.Proofs.YtpcniebkabkikaaGreatDoor
open Go Go.RowKit
def marksL:List (List Nat):=mark1.map (fun c=>[c])++mark2
theorem ne_lit {s:ByteArray} {L:List (List Nat)} {u:List UInt8} (h:bl s ∉ L) (hu:u.map UInt8.toNat ∈ L):(s.toList == u)=false:=by
  rw [beq_eq_false_iff_ne]
  intro e
  rw [Lib.toList_data] at e
  exact h (by unfold bl;rw [e];exact hu)
set_option maxRecDepth 100000 in
set_option maxHeartbeats 1000000 in
theorem isKeyword_no (s:ByteArray) (h:bl s ∉ keysL) (w:World):Calls Tryz.prog 251 #[.string s] w fun e w'=>e=.returned (.bool false)∧w=w':=by
  have e0:(s.toList == [112,114,105,110,99,105,112,97,108])=false:=ne_lit h (by decide)
  have e1:(s.toList == [103,108,111,98,97,108])=false:=ne_lit h (by decide)
  have e2:(s.toList == [97,114,114,97,121])=false:=ne_lit h (by decide)
  have e3:(s.toList == [99,104,97,110,110,101,108])=false:=ne_lit h (by decide)
  have e4:(s.toList == [102,117,110,99])=false:=ne_lit h (by decide)
  have e5:(s.toList == [118,97,114])=false:=ne_lit h (by decide)
  have e6:(s.toList == [105,102])=false:=ne_lit h (by decide)
  have e7:(s.toList == [101,108,115,101])=false:=ne_lit h (by decide)
  have e8:(s.toList == [119,104,105,108,101])=false:=ne_lit h (by decide)
  have e9:(s.toList == [115,101,110,100])=false:=ne_lit h (by decide)
  have e10:(s.toList == [114,101,116,117,114,110])=false:=ne_lit h (by decide)
  clear h
  go_enter Tryz.func251,Tryz.ntmps251
  go_wp2
  go_ret
  exact ⟨rfl,rfl⟩
set_option maxRecDepth 100000 in
set_option maxHeartbeats 1000000 in
theorem isKeyword_yes (s:ByteArray) (h:bl s ∈ keysL) (w:World):Calls Tryz.prog 251 #[.string s] w fun e w'=>e=.returned (.bool true)∧w=w':=by
  simp only [keysL,List.mem_cons,List.not_mem_nil,or_false] at h
  rcases h with h | h | h | h | h | h | h | h | h | h | h
  · obtain rfl:s=⟨#[112,114,105,110,99,105,112,97,108]⟩:=bl_inj (h.trans (by decide))
    clear h
    go_enter Tryz.func251,Tryz.ntmps251
    go_wp2
    go_ret
    exact ⟨rfl,rfl⟩
  · obtain rfl:s=⟨#[103,108,111,98,97,108]⟩:=bl_inj (h.trans (by decide))
    clear h
    go_enter Tryz.func251,Tryz.ntmps251
    go_wp2
    go_ret
    exact ⟨rfl,rfl⟩
  · obtain rfl:s=⟨#[97,114,114,97,121]⟩:=bl_inj (h.trans (by decide))
    clear h
    go_enter Tryz.func251,Tryz.ntmps251
    go_wp2
    go_ret
    exact ⟨rfl,rfl⟩
  · obtain rfl:s=⟨#[99,104,97,110,110,101,108]⟩:=bl_inj (h.trans (by decide))
    clear h
    go_enter Tryz.func251,Tryz.ntmps251
    go_wp2
    go_ret
    exact ⟨rfl,rfl⟩
  · obtain rfl:s=⟨#[102,117,110,99]⟩:=bl_inj (h.trans (by decide))
    clear h
    go_enter Tryz.func251,Tryz.ntmps251
    go_wp2
    go_ret
    exact ⟨rfl,rfl⟩
  · obtain rfl:s=⟨#[118,97,114]⟩:=bl_inj (h.trans (by decide))
    clear h
    go_enter Tryz.func251,Tryz.ntmps251
    go_wp2
    go_ret
    exact ⟨rfl,rfl⟩
  · obtain rfl:s=⟨#[105,102]⟩:=bl_inj (h.trans (by decide))
    clear h
    go_enter Tryz.func251,Tryz.ntmps251
    go_wp2
    go_ret
    exact ⟨rfl,rfl⟩
  · obtain rfl:s=⟨#[101,108,115,101]⟩:=bl_inj (h.trans (by decide))
    clear h
    go_enter Tryz.func251,Tryz.ntmps251
    go_wp2
    go_ret
    exact ⟨rfl,rfl⟩
  · obtain rfl:s=⟨#[119,104,105,108,101]⟩:=bl_inj (h.trans (by decide))
    clear h
    go_enter Tryz.func251,Tryz.ntmps251
    go_wp2
    go_ret
    exact ⟨rfl,rfl⟩
  · obtain rfl:s=⟨#[115,101,110,100]⟩:=bl_inj (h.trans (by decide))
    clear h
    go_enter Tryz.func251,Tryz.ntmps251
    go_wp2
    go_ret
    exact ⟨rfl,rfl⟩
  · obtain rfl:s=⟨#[114,101,116,117,114,110]⟩:=bl_inj (h.trans (by decide))
    clear h
    go_enter Tryz.func251,Tryz.ntmps251
    go_wp2
    go_ret
    exact ⟨rfl,rfl⟩
set_option maxRecDepth 100000 in
set_option maxHeartbeats 1000000 in
theorem isMark_no (s:ByteArray) (h:bl s ∉ marksL) (w:World):Calls Tryz.prog 253 #[.string s] w fun e w'=>e=.returned (.bool false)∧w=w':=by
  have e0:(s.toList == [123])=false:=ne_lit h (by decide)
  have e1:(s.toList == [125])=false:=ne_lit h (by decide)
  have e2:(s.toList == [40])=false:=ne_lit h (by decide)
  have e3:(s.toList == [41])=false:=ne_lit h (by decide)
  have e4:(s.toList == [91])=false:=ne_lit h (by decide)
  have e5:(s.toList == [93])=false:=ne_lit h (by decide)
  have e6:(s.toList == [44])=false:=ne_lit h (by decide)
  have e7:(s.toList == [59])=false:=ne_lit h (by decide)
  have e8:(s.toList == [61])=false:=ne_lit h (by decide)
  have e9:(s.toList == [61,61])=false:=ne_lit h (by decide)
  have e10:(s.toList == [33,61])=false:=ne_lit h (by decide)
  have e11:(s.toList == [60])=false:=ne_lit h (by decide)
  have e12:(s.toList == [60,61])=false:=ne_lit h (by decide)
  have e13:(s.toList == [43])=false:=ne_lit h (by decide)
  have e14:(s.toList == [45])=false:=ne_lit h (by decide)
  have e15:(s.toList == [42])=false:=ne_lit h (by decide)
  have e16:(s.toList == [47])=false:=ne_lit h (by decide)
  have e17:(s.toList == [37])=false:=ne_lit h (by decide)
  have e18:(s.toList == [38])=false:=ne_lit h (by decide)
  have e19:(s.toList == [124])=false:=ne_lit h (by decide)
  have e20:(s.toList == [94])=false:=ne_lit h (by decide)
  have e21:(s.toList == [60,60])=false:=ne_lit h (by decide)
  have e22:(s.toList == [62,62])=false:=ne_lit h (by decide)
  have e23:(s.toList == [33])=false:=ne_lit h (by decide)
  have e24:(s.toList == [126])=false:=ne_lit h (by decide)
  clear h
  go_enter Tryz.func253,Tryz.ntmps253
  go_wp2
  go_ret
  exact ⟨rfl,rfl⟩
set_option maxRecDepth 100000 in
set_option maxHeartbeats 1000000 in
theorem isMark_yes (s:ByteArray) (h:bl s ∈ marksL) (w:World):Calls Tryz.prog 253 #[.string s] w fun e w'=>e=.returned (.bool true)∧w=w':=by
  simp only [marksL,mark1,mark2,List.map_cons,List.map_nil,List.cons_append,List.nil_append,List.mem_cons,List.not_mem_nil,or_false] at h
  rcases h with h | h | h | h | h | h | h | h | h | h | h | h | h | h | h | h | h | h | h | h | h | h | h | h | h
  · obtain rfl:s=⟨#[123]⟩:=bl_inj (h.trans (by decide))
    clear h
    go_enter Tryz.func253,Tryz.ntmps253
    go_wp2
    go_ret
    exact ⟨rfl,rfl⟩
  · obtain rfl:s=⟨#[125]⟩:=bl_inj (h.trans (by decide))
    clear h
    go_enter Tryz.func253,Tryz.ntmps253
    go_wp2
    go_ret
    exact ⟨rfl,rfl⟩
  · obtain rfl:s=⟨#[40]⟩:=bl_inj (h.trans (by decide))
    clear h
    go_enter Tryz.func253,Tryz.ntmps253
    go_wp2
    go_ret
    exact ⟨rfl,rfl⟩
  · obtain rfl:s=⟨#[41]⟩:=bl_inj (h.trans (by decide))
    clear h
    go_enter Tryz.func253,Tryz.ntmps253
    go_wp2
    go_ret
    exact ⟨rfl,rfl⟩
  · obtain rfl:s=⟨#[91]⟩:=bl_inj (h.trans (by decide))
    clear h
    go_enter Tryz.func253,Tryz.ntmps253
    go_wp2
    go_ret
    exact ⟨rfl,rfl⟩
  · obtain rfl:s=⟨#[93]⟩:=bl_inj (h.trans (by decide))
    clear h
    go_enter Tryz.func253,Tryz.ntmps253
    go_wp2
    go_ret
    exact ⟨rfl,rfl⟩
  · obtain rfl:s=⟨#[44]⟩:=bl_inj (h.trans (by decide))
    clear h
    go_enter Tryz.func253,Tryz.ntmps253
    go_wp2
    go_ret
    exact ⟨rfl,rfl⟩
  · obtain rfl:s=⟨#[59]⟩:=bl_inj (h.trans (by decide))
    clear h
    go_enter Tryz.func253,Tryz.ntmps253
    go_wp2
    go_ret
    exact ⟨rfl,rfl⟩
  · obtain rfl:s=⟨#[61]⟩:=bl_inj (h.trans (by decide))
    clear h
    go_enter Tryz.func253,Tryz.ntmps253
    go_wp2
    go_ret
    exact ⟨rfl,rfl⟩
  · obtain rfl:s=⟨#[60]⟩:=bl_inj (h.trans (by decide))
    clear h
    go_enter Tryz.func253,Tryz.ntmps253
    go_wp2
    go_ret
    exact ⟨rfl,rfl⟩
  · obtain rfl:s=⟨#[43]⟩:=bl_inj (h.trans (by decide))
    clear h
    go_enter Tryz.func253,Tryz.ntmps253
    go_wp2
    go_ret
    exact ⟨rfl,rfl⟩
  · obtain rfl:s=⟨#[45]⟩:=bl_inj (h.trans (by decide))
    clear h
    go_enter Tryz.func253,Tryz.ntmps253
    go_wp2
    go_ret
    exact ⟨rfl,rfl⟩
  · obtain rfl:s=⟨#[42]⟩:=bl_inj (h.trans (by decide))
    clear h
    go_enter Tryz.func253,Tryz.ntmps253
    go_wp2
    go_ret
    exact ⟨rfl,rfl⟩
  · obtain rfl:s=⟨#[47]⟩:=bl_inj (h.trans (by decide))
    clear h
    go_enter Tryz.func253,Tryz.ntmps253
    go_wp2
    go_ret
    exact ⟨rfl,rfl⟩
  · obtain rfl:s=⟨#[37]⟩:=bl_inj (h.trans (by decide))
    clear h
    go_enter Tryz.func253,Tryz.ntmps253
    go_wp2
    go_ret
    exact ⟨rfl,rfl⟩
  · obtain rfl:s=⟨#[38]⟩:=bl_inj (h.trans (by decide))
    clear h
    go_enter Tryz.func253,Tryz.ntmps253
    go_wp2
    go_ret
    exact ⟨rfl,rfl⟩
  · obtain rfl:s=⟨#[124]⟩:=bl_inj (h.trans (by decide))
    clear h
    go_enter Tryz.func253,Tryz.ntmps253
    go_wp2
    go_ret
    exact ⟨rfl,rfl⟩
  · obtain rfl:s=⟨#[94]⟩:=bl_inj (h.trans (by decide))
    clear h
    go_enter Tryz.func253,Tryz.ntmps253
    go_wp2
    go_ret
    exact ⟨rfl,rfl⟩
  · obtain rfl:s=⟨#[33]⟩:=bl_inj (h.trans (by decide))
    clear h
    go_enter Tryz.func253,Tryz.ntmps253
    go_wp2
    go_ret
    exact ⟨rfl,rfl⟩
  · obtain rfl:s=⟨#[126]⟩:=bl_inj (h.trans (by decide))
    clear h
    go_enter Tryz.func253,Tryz.ntmps253
    go_wp2
    go_ret
    exact ⟨rfl,rfl⟩
  · obtain rfl:s=⟨#[61,61]⟩:=bl_inj (h.trans (by decide))
    clear h
    go_enter Tryz.func253,Tryz.ntmps253
    go_wp2
    go_ret
    exact ⟨rfl,rfl⟩
  · obtain rfl:s=⟨#[33,61]⟩:=bl_inj (h.trans (by decide))
    clear h
    go_enter Tryz.func253,Tryz.ntmps253
    go_wp2
    go_ret
    exact ⟨rfl,rfl⟩
  · obtain rfl:s=⟨#[60,61]⟩:=bl_inj (h.trans (by decide))
    clear h
    go_enter Tryz.func253,Tryz.ntmps253
    go_wp2
    go_ret
    exact ⟨rfl,rfl⟩
  · obtain rfl:s=⟨#[60,60]⟩:=bl_inj (h.trans (by decide))
    clear h
    go_enter Tryz.func253,Tryz.ntmps253
    go_wp2
    go_ret
    exact ⟨rfl,rfl⟩
  · obtain rfl:s=⟨#[62,62]⟩:=bl_inj (h.trans (by decide))
    clear h
    go_enter Tryz.func253,Tryz.ntmps253
    go_wp2
    go_ret
    exact ⟨rfl,rfl⟩
end Go.Proofs.YtpcniebkabkikaaGreatDoor
namespace Go.Proofs.YtpcniebkabkikaaGreatDoor
open Go
theorem foldl_bl (l:List UInt8) (acc:Nat):(l.map UInt8.toNat).foldl (fun n d=>10 * n+(d - 48)) acc=l.foldl (fun n c=>10 * n+(c.toNat - 48)) acc:=by
  rw [List.foldl_map]
theorem foldl_ge8 (l:List UInt8) (n:Nat):n≤l.foldl (fun n c=>10 * n+(c.toNat - 48)) n:=by
  rw [← foldl_bl];exact foldl_ge _ _
theorem parseM_digits:∀ (l:List UInt8) (acc:Nat),(∀ c ∈ l,48≤c.toNat∧c.toNat≤57)→acc≤18446744073709551615 →
    Lib.parseUintM 18446744073709551615 acc l=if l.foldl (fun n c=>10 * n+(c.toNat - 48)) acc≤18446744073709551615 then .ok (l.foldl (fun n c=>10 * n+(c.toNat - 48)) acc) else .range
  | [],acc,_,h=>by rw [Lib.parseUintM,List.foldl_nil,if_pos h]
  | c :: r,acc,hd,h=>by
    have hc:=hd c (List.mem_cons_self ..)
    have hg:=foldl_ge8 r (10 * acc+(c.toNat - 48))
    rw [Lib.parseUintM,if_pos hc,List.foldl_cons]
    by_cases h1:1844674407370955162≤acc
    · rw [if_pos h1,if_neg (by omega)]
    · rw [if_neg h1]
      by_cases h2:18446744073709551615<acc * 10+(c.toNat - 48)
      · rw [if_pos h2,if_neg (by omega)]
      · rw [if_neg h2,Nat.mul_comm acc 10,parseM_digits r _ (fun x hx=>hd x (List.mem_cons_of_mem _ hx)) (by omega)]
theorem parse_digits (l:List UInt8) (h0:l ≠ []) (hd:∀ x ∈ l.map UInt8.toNat,digitB x=true) :
    Lib.parseIntB 64 l=if valD (l.map UInt8.toNat)≤most then .ok (valD (l.map UInt8.toNat):Nat) else .range:=by
  have hd':∀ c ∈ l,48≤c.toNat∧c.toNat≤57:=fun c hc=>digit_range (hd _ (List.mem_map_of_mem hc))
  have hm:=parseM_digits l 0 hd' (by omega)
  rw [← foldl_bl] at hm
  change _=if valD (l.map UInt8.toNat)≤_ then Lib.NumEnd.ok (valD (l.map UInt8.toNat)) else _ at hm
  cases l with
  | nil=>exact absurd rfl h0
  | cons c r =>
    have hc:=hd' c (List.mem_cons_self ..)
    rw [Lib.parseIntB]
    simp only [show ¬ c.toNat=43 by omega,show ¬ c.toNat=45 by omega,or_false,if_false,not_false_eq_true,true_and,false_and]
    rw [Lib.parseUintB,if_neg (by simp),show (2 ^ 64 - 1:Nat)=18446744073709551615 by decide,hm]
    generalize valD ((c :: r).map UInt8.toNat)=V
    by_cases h1:V≤18446744073709551615
    · rw [if_pos h1]
      by_cases h2:V≤most
      · simp only [if_pos h2,show ¬ 2 ^ (64 - 1)≤V by simp only [most] at h2;omega,if_false]
      · simp only [if_neg h2,show 2 ^ (64 - 1)≤V by simp only [most] at h2;omega,if_true]
    · rw [if_neg h1,if_neg (by simp only [most];omega)]
end Go.Proofs.YtpcniebkabkikaaGreatDoor
namespace Go.Proofs
open Go.Shelf
def Tryz.lays170_ren:Go.Shelf.Ren:=⟨fun | 170=>103 | n=>n,fun | 70=>76 | 3=>3 | 0=>0 | 72=>79 | 37=>77 | 5=>5 | n=>n,fun | n=>n⟩
theorem Tryz.lays170:Go.Proofs.Lays.n170 Tryz.prog Tryz.lays170_ren:={
  mixed:=by kernel_rfl
  f170:=Tryz.func103.trans (congrArg some (by kernel_rfl))
  t0:=Tryz.underlying0
  a0:=Tryz.isAgg0
  z0:=Tryz.sizeOf0
  v0:=Tryz.zeroValue0
  t3:=Tryz.underlying3
  a3:=Tryz.isAgg3
  z3:=Tryz.sizeOf3
  v3:=Tryz.zeroValue3
  t37:=Tryz.underlying77
  a37:=Tryz.isAgg77
  z37:=Tryz.sizeOf77
  v37:=Tryz.zeroValue77
  t70:=Tryz.underlying76
  a70:=Tryz.isAgg76
  z70:=Tryz.sizeOf76
  v70:=Tryz.zeroValue76
  t72:=Tryz.underlying79
  a72:=Tryz.isAgg79
  z72:=Tryz.sizeOf79
  v72:=Tryz.zeroValue79 }
def Tryz.lays169_ren:Go.Shelf.Ren:=⟨fun | 169=>34 | n=>n,fun | 70=>76 | 9=>9 | 0=>0 | 72=>79 | 37=>77 | 127=>109 | 3=>3 | 5=>5 | n=>n,fun | n=>n⟩
theorem Tryz.lays169:Go.Proofs.Lays.n169 Tryz.prog Tryz.lays169_ren:={
  mixed:=by kernel_rfl
  f169:=Tryz.func34.trans (congrArg some (by kernel_rfl))
  t0:=Tryz.underlying0
  a0:=Tryz.isAgg0
  z0:=Tryz.sizeOf0
  v0:=Tryz.zeroValue0
  t3:=Tryz.underlying3
  a3:=Tryz.isAgg3
  z3:=Tryz.sizeOf3
  v3:=Tryz.zeroValue3
  t9:=Tryz.underlying9
  a9:=Tryz.isAgg9
  z9:=Tryz.sizeOf9
  v9:=Tryz.zeroValue9
  t37:=Tryz.underlying77
  a37:=Tryz.isAgg77
  z37:=Tryz.sizeOf77
  v37:=Tryz.zeroValue77
  t70:=Tryz.underlying76
  a70:=Tryz.isAgg76
  z70:=Tryz.sizeOf76
  v70:=Tryz.zeroValue76
  t72:=Tryz.underlying79
  a72:=Tryz.isAgg79
  z72:=Tryz.sizeOf79
  v72:=Tryz.zeroValue79
  t127:=Tryz.underlying109
  a127:=Tryz.isAgg109
  z127:=Tryz.sizeOf109
  v127:=Tryz.zeroValue109 }
theorem Tryz.Builder_Extra_169:Builder.Extra Tryz.prog Tryz.lays169_ren:={
  sizeBuilder:=by kernel_rfl
  liesBuilder:=by kernel_rfl
  t5:=Tryz.underlying5
  a5:=Tryz.isAgg5
  z5:=Tryz.sizeOf5
  v5:=Tryz.zeroValue5
  infoByte:=by kernel_rfl
  cellsByte:=by kernel_rfl
  sizeByte:=by kernel_rfl
  neB5:=by decide }
open Go.RowKit in
theorem Tryz.Builder_Len_f (B b:Nat) (bs:List Value) (w:World) (h:Lib.IsBuilderF 79 5 B b bs w) :
    Calls Tryz.prog 103 #[.pointer (some ⟨b,0,none⟩)] w fun e w'=>e=.returned (.int .i64 bs.length)∧w'=w:=Any.Builder_Len_f Tryz.lays170 B b bs w h
open Go.RowKit in
theorem Tryz.Builder_String_any_k (B b:Nat) (l:List UInt8) (w:World) (h:Lib.IsBuilderF 79 5 B b (Lib.byteCells l) w) (hBw:B≤w.heap.size) :
    Calls Tryz.prog 34 #[.pointer (some ⟨b,0,none⟩)] w fun e w'=>e=.returned (.string ⟨l.toArray⟩)∧(Lib.IsBuilderF 79 5 B b (Lib.byteCells l) w'∧Below B w w'∧Lib.OthersKept 5 (some b) w w'):=Any.Builder_String_any_k Tryz.lays169 Tryz.Builder_Extra_169 B b l w h hBw
def Tryz.laysM171_ren:Go.Shelf.Ren:=⟨fun | 171=>112 | 243=>161 | 246=>198 | 283=>230 | 284=>231 | 285=>232 | 286=>233 | 129=>257 | 317=>256 | 318=>258 | 319=>259 | 320=>260 | 337=>270 | 338=>237 | n=>n,fun | 3=>3 | 9=>9 | 2=>2 | 4=>4 | 171=>253 | 0=>0 | 53=>49 | 37=>77 | 5=>5 | 173=>256 | 212=>273 | 51=>274 | 20=>20 | 213=>275 | 46=>208 | 232=>292 | 233=>277 | n=>n,fun | 17=>1 | 18=>3 | 19=>2 | n=>n⟩
theorem Tryz.laysM171:Go.Proofs.LaysM.n171 Tryz.prog Tryz.laysM171_ren:={
  mixed:=by kernel_rfl
  f129:=Tryz.func257.trans (congrArg some (by kernel_rfl))
  f171:=Tryz.func112.trans (congrArg some (by kernel_rfl))
  f243:=Tryz.func161.trans (congrArg some (by kernel_rfl))
  f246:=Tryz.func198.trans (congrArg some (by kernel_rfl))
  f283:=Tryz.func230.trans (congrArg some (by kernel_rfl))
  f284:=Tryz.func231.trans (congrArg some (by kernel_rfl))
  f285:=Tryz.func232.trans (congrArg some (by kernel_rfl))
  f286:=Tryz.func233.trans (congrArg some (by kernel_rfl))
  f317:=Tryz.func256.trans (congrArg some (by kernel_rfl))
  f318:=Tryz.func258.trans (congrArg some (by kernel_rfl))
  f319:=Tryz.func259.trans (congrArg some (by kernel_rfl))
  f320:=Tryz.func260.trans (congrArg some (by kernel_rfl))
  f337:=Tryz.func270.trans (congrArg some (by kernel_rfl))
  f338:=Tryz.func237.trans (congrArg some (by kernel_rfl))
  t0:=Tryz.underlying0
  a0:=Tryz.isAgg0
  z0:=Tryz.sizeOf0
  v0:=Tryz.zeroValue0
  t2:=Tryz.underlying2
  a2:=Tryz.isAgg2
  z2:=Tryz.sizeOf2
  v2:=Tryz.zeroValue2
  t3:=Tryz.underlying3
  a3:=Tryz.isAgg3
  z3:=Tryz.sizeOf3
  v3:=Tryz.zeroValue3
  t4:=Tryz.underlying4
  a4:=Tryz.isAgg4
  z4:=Tryz.sizeOf4
  v4:=Tryz.zeroValue4
  t5:=Tryz.underlying5
  a5:=Tryz.isAgg5
  z5:=Tryz.sizeOf5
  v5:=Tryz.zeroValue5
  t9:=Tryz.underlying9
  a9:=Tryz.isAgg9
  z9:=Tryz.sizeOf9
  v9:=Tryz.zeroValue9
  t20:=Tryz.underlying20
  a20:=Tryz.isAgg20
  z20:=Tryz.sizeOf20
  v20:=Tryz.zeroValue20
  t37:=Tryz.underlying77
  a37:=Tryz.isAgg77
  z37:=Tryz.sizeOf77
  v37:=Tryz.zeroValue77
  t46:=Tryz.underlying208
  a46:=Tryz.isAgg208
  z46:=Tryz.sizeOf208
  v46:=Tryz.zeroValue208
  t51:=Tryz.underlying274
  a51:=Tryz.isAgg274
  z51:=Tryz.sizeOf274
  v51:=Tryz.zeroValue274
  t53:=Tryz.underlying49
  a53:=Tryz.isAgg49
  z53:=Tryz.sizeOf49
  v53:=Tryz.zeroValue49
  t171:=Tryz.underlying253
  a171:=Tryz.isAgg253
  z171:=Tryz.sizeOf253
  v171:=Tryz.zeroValue253
  t173:=Tryz.underlying256
  a173:=Tryz.isAgg256
  z173:=Tryz.sizeOf256
  v173:=Tryz.zeroValue256
  t212:=Tryz.underlying273
  a212:=Tryz.isAgg273
  z212:=Tryz.sizeOf273
  v212:=Tryz.zeroValue273
  t213:=Tryz.underlying275
  a213:=Tryz.isAgg275
  z213:=Tryz.sizeOf275
  t232:=Tryz.underlying292
  a232:=Tryz.isAgg292
  z232:=Tryz.sizeOf292
  v232:=Tryz.zeroValue292
  t233:=Tryz.underlying277
  a233:=Tryz.isAgg277
  z233:=Tryz.sizeOf277
  v233:=Tryz.zeroValue277
  g17:=by kernel_rfl
  g18:=by kernel_rfl
  g19:=by kernel_rfl
  i0:=by kernel_rfl
  i2:=by kernel_rfl
  i3:=by kernel_rfl
  i4:=by kernel_rfl
  i5:=by kernel_rfl
  i9:=by kernel_rfl
  i20:=by kernel_rfl
  i37:=by kernel_rfl
  i46:=by kernel_rfl
  i51:=by kernel_rfl
  i53:=by kernel_rfl
  i171:=by kernel_rfl
  i173:=by kernel_rfl
  i212:=by kernel_rfl
  i232:=by kernel_rfl
  i233:=by kernel_rfl
  m17:=by kernel_rfl
  m18:=by kernel_rfl
  m19:=by kernel_rfl }
open Go.RowKit Go.Sort Go.Lib in
theorem Tryz.strconv_Itoa (n : Int) (h0 : -9223372036854775808 ≤ n) (h1 : n ≤ 9223372036854775807) (w : World) (htab : Lib.TabIs Tryz.prog w "internal/strconv.uint64pow10" .u64 Lib.pow10Tab) :
    Calls Tryz.prog 112 #[.int .i64 n] w fun e w'=>e=.returned (.string ⟨(Lib.itoa n).toArray⟩)∧∃ k os,w'=grow (w.drewN k) os:=Any.strconv_Itoa Tryz.laysM171 n h0 h1 w htab
def Tryz.lays171_ren:Go.Shelf.Ren:=⟨fun | 171=>112 | 243=>161 | 246=>198 | 283=>230 | 284=>231 | 285=>232 | 286=>233 | 129=>257 | 317=>256 | 318=>258 | 319=>259 | 320=>260 | 337=>270 | 338=>237 | n=>n,fun | 3=>3 | 9=>9 | 2=>2 | 4=>4 | 171=>253 | 0=>0 | 53=>49 | 37=>77 | 5=>5 | 173=>256 | 212=>273 | 51=>274 | 20=>20 | 213=>275 | 46=>208 | 232=>292 | 233=>277 | n=>n,fun | 17=>1 | 18=>3 | 19=>2 | n=>n⟩
theorem Tryz.lays171:Go.Proofs.Lays.n171 Tryz.prog Tryz.lays171_ren:={
  mixed:=by kernel_rfl
  f129:=Tryz.func257.trans (congrArg some (by kernel_rfl))
  f171:=Tryz.func112.trans (congrArg some (by kernel_rfl))
  f243:=Tryz.func161.trans (congrArg some (by kernel_rfl))
  f246:=Tryz.func198.trans (congrArg some (by kernel_rfl))
  f283:=Tryz.func230.trans (congrArg some (by kernel_rfl))
  f284:=Tryz.func231.trans (congrArg some (by kernel_rfl))
  f285:=Tryz.func232.trans (congrArg some (by kernel_rfl))
  f286:=Tryz.func233.trans (congrArg some (by kernel_rfl))
  f317:=Tryz.func256.trans (congrArg some (by kernel_rfl))
  f318:=Tryz.func258.trans (congrArg some (by kernel_rfl))
  f319:=Tryz.func259.trans (congrArg some (by kernel_rfl))
  f320:=Tryz.func260.trans (congrArg some (by kernel_rfl))
  f337:=Tryz.func270.trans (congrArg some (by kernel_rfl))
  f338:=Tryz.func237.trans (congrArg some (by kernel_rfl))
  t0:=Tryz.underlying0
  a0:=Tryz.isAgg0
  z0:=Tryz.sizeOf0
  v0:=Tryz.zeroValue0
  t2:=Tryz.underlying2
  a2:=Tryz.isAgg2
  z2:=Tryz.sizeOf2
  v2:=Tryz.zeroValue2
  t3:=Tryz.underlying3
  a3:=Tryz.isAgg3
  z3:=Tryz.sizeOf3
  v3:=Tryz.zeroValue3
  t4:=Tryz.underlying4
  a4:=Tryz.isAgg4
  z4:=Tryz.sizeOf4
  v4:=Tryz.zeroValue4
  t5:=Tryz.underlying5
  a5:=Tryz.isAgg5
  z5:=Tryz.sizeOf5
  v5:=Tryz.zeroValue5
  t9:=Tryz.underlying9
  a9:=Tryz.isAgg9
  z9:=Tryz.sizeOf9
  v9:=Tryz.zeroValue9
  t20:=Tryz.underlying20
  a20:=Tryz.isAgg20
  z20:=Tryz.sizeOf20
  v20:=Tryz.zeroValue20
  t37:=Tryz.underlying77
  a37:=Tryz.isAgg77
  z37:=Tryz.sizeOf77
  v37:=Tryz.zeroValue77
  t46:=Tryz.underlying208
  a46:=Tryz.isAgg208
  z46:=Tryz.sizeOf208
  v46:=Tryz.zeroValue208
  t51:=Tryz.underlying274
  a51:=Tryz.isAgg274
  z51:=Tryz.sizeOf274
  v51:=Tryz.zeroValue274
  t53:=Tryz.underlying49
  a53:=Tryz.isAgg49
  z53:=Tryz.sizeOf49
  v53:=Tryz.zeroValue49
  t171:=Tryz.underlying253
  a171:=Tryz.isAgg253
  z171:=Tryz.sizeOf253
  v171:=Tryz.zeroValue253
  t173:=Tryz.underlying256
  a173:=Tryz.isAgg256
  z173:=Tryz.sizeOf256
  v173:=Tryz.zeroValue256
  t212:=Tryz.underlying273
  a212:=Tryz.isAgg273
  z212:=Tryz.sizeOf273
  v212:=Tryz.zeroValue273
  t213:=Tryz.underlying275
  a213:=Tryz.isAgg275
  z213:=Tryz.sizeOf275
  t232:=Tryz.underlying292
  a232:=Tryz.isAgg292
  z232:=Tryz.sizeOf292
  v232:=Tryz.zeroValue292
  t233:=Tryz.underlying277
  a233:=Tryz.isAgg277
  z233:=Tryz.sizeOf277
  v233:=Tryz.zeroValue277
  g17:=by kernel_rfl
  g18:=by kernel_rfl
  g19:=by kernel_rfl }
open Go.RowKit Go.Sort Go.Lib in
theorem Tryz.strconv_Itoa_small (i:Nat) (hi:i<100) (w:World) :
    Calls Tryz.prog 112 #[.int .i64 i] w fun e w'=>e=.returned (.string ⟨(Lib.decDigits i).toArray⟩)∧w'=w:=Any.strconv_Itoa_small Tryz.lays171 i hi w
def Tryz.laysM173_ren:Go.Shelf.Ren:=⟨fun | 173=>176 | 246=>198 | 283=>230 | 284=>231 | 285=>232 | 286=>233 | 129=>257 | 317=>256 | 318=>258 | 319=>259 | 320=>260 | 337=>270 | 338=>237 | n=>n,fun | 2=>2 | 3=>3 | 9=>9 | 4=>4 | 171=>253 | 0=>0 | 53=>49 | 37=>77 | 5=>5 | 173=>256 | 212=>273 | 51=>274 | 20=>20 | 213=>275 | 46=>208 | 232=>292 | 233=>277 | n=>n,fun | 17=>1 | 18=>3 | 19=>2 | n=>n⟩
theorem Tryz.laysM173:Go.Proofs.LaysM.n173 Tryz.prog Tryz.laysM173_ren:={
  mixed:=by kernel_rfl
  f129:=Tryz.func257.trans (congrArg some (by kernel_rfl))
  f173:=Tryz.func176.trans (congrArg some (by kernel_rfl))
  f246:=Tryz.func198.trans (congrArg some (by kernel_rfl))
  f283:=Tryz.func230.trans (congrArg some (by kernel_rfl))
  f284:=Tryz.func231.trans (congrArg some (by kernel_rfl))
  f285:=Tryz.func232.trans (congrArg some (by kernel_rfl))
  f286:=Tryz.func233.trans (congrArg some (by kernel_rfl))
  f317:=Tryz.func256.trans (congrArg some (by kernel_rfl))
  f318:=Tryz.func258.trans (congrArg some (by kernel_rfl))
  f319:=Tryz.func259.trans (congrArg some (by kernel_rfl))
  f320:=Tryz.func260.trans (congrArg some (by kernel_rfl))
  f337:=Tryz.func270.trans (congrArg some (by kernel_rfl))
  f338:=Tryz.func237.trans (congrArg some (by kernel_rfl))
  t0:=Tryz.underlying0
  a0:=Tryz.isAgg0
  z0:=Tryz.sizeOf0
  v0:=Tryz.zeroValue0
  t2:=Tryz.underlying2
  a2:=Tryz.isAgg2
  z2:=Tryz.sizeOf2
  v2:=Tryz.zeroValue2
  t3:=Tryz.underlying3
  a3:=Tryz.isAgg3
  z3:=Tryz.sizeOf3
  v3:=Tryz.zeroValue3
  t4:=Tryz.underlying4
  a4:=Tryz.isAgg4
  z4:=Tryz.sizeOf4
  v4:=Tryz.zeroValue4
  t5:=Tryz.underlying5
  a5:=Tryz.isAgg5
  z5:=Tryz.sizeOf5
  v5:=Tryz.zeroValue5
  t9:=Tryz.underlying9
  a9:=Tryz.isAgg9
  z9:=Tryz.sizeOf9
  v9:=Tryz.zeroValue9
  t20:=Tryz.underlying20
  a20:=Tryz.isAgg20
  z20:=Tryz.sizeOf20
  v20:=Tryz.zeroValue20
  t37:=Tryz.underlying77
  a37:=Tryz.isAgg77
  z37:=Tryz.sizeOf77
  v37:=Tryz.zeroValue77
  t46:=Tryz.underlying208
  a46:=Tryz.isAgg208
  z46:=Tryz.sizeOf208
  v46:=Tryz.zeroValue208
  t51:=Tryz.underlying274
  a51:=Tryz.isAgg274
  z51:=Tryz.sizeOf274
  v51:=Tryz.zeroValue274
  t53:=Tryz.underlying49
  a53:=Tryz.isAgg49
  z53:=Tryz.sizeOf49
  v53:=Tryz.zeroValue49
  t171:=Tryz.underlying253
  a171:=Tryz.isAgg253
  z171:=Tryz.sizeOf253
  v171:=Tryz.zeroValue253
  t173:=Tryz.underlying256
  a173:=Tryz.isAgg256
  z173:=Tryz.sizeOf256
  v173:=Tryz.zeroValue256
  t212:=Tryz.underlying273
  a212:=Tryz.isAgg273
  z212:=Tryz.sizeOf273
  v212:=Tryz.zeroValue273
  t213:=Tryz.underlying275
  a213:=Tryz.isAgg275
  z213:=Tryz.sizeOf275
  t232:=Tryz.underlying292
  a232:=Tryz.isAgg292
  z232:=Tryz.sizeOf292
  v232:=Tryz.zeroValue292
  t233:=Tryz.underlying277
  a233:=Tryz.isAgg277
  z233:=Tryz.sizeOf277
  v233:=Tryz.zeroValue277
  g17:=by kernel_rfl
  g18:=by kernel_rfl
  g19:=by kernel_rfl
  i0:=by kernel_rfl
  i2:=by kernel_rfl
  i3:=by kernel_rfl
  i4:=by kernel_rfl
  i5:=by kernel_rfl
  i9:=by kernel_rfl
  i20:=by kernel_rfl
  i37:=by kernel_rfl
  i46:=by kernel_rfl
  i51:=by kernel_rfl
  i53:=by kernel_rfl
  i171:=by kernel_rfl
  i173:=by kernel_rfl
  i212:=by kernel_rfl
  i232:=by kernel_rfl
  i233:=by kernel_rfl
  m17:=by kernel_rfl
  m18:=by kernel_rfl
  m19:=by kernel_rfl }
open Go.RowKit Go.Sort Go.Lib in
theorem Tryz.strconv_FormatInt_10 (n : Int) (h0 : -9223372036854775808 ≤ n) (h1 : n ≤ 9223372036854775807) (w : World) (htab : Lib.TabIs Tryz.prog w "internal/strconv.uint64pow10" .u64 Lib.pow10Tab) :
    Calls Tryz.prog 176 #[.int .i64 n,.int .i64 10] w fun e w'=>e=.returned (.string ⟨(Lib.itoa n).toArray⟩)∧∃ k os,w'=grow (w.drewN k) os:=Any.strconv_FormatInt_10 Tryz.laysM173 n h0 h1 w htab
def Tryz.laysM316_ren:Go.Shelf.Ren:=⟨fun | 316=>222 | n=>n,fun | 9=>9 | 3=>3 | 4=>4 | 37=>77 | 0=>0 | 127=>109 | 5=>5 | n=>n,fun | n=>n⟩
theorem Tryz.laysM316:Go.Proofs.LaysM.n316 Tryz.prog Tryz.laysM316_ren:={
  mixed:=by kernel_rfl
  f316:=Tryz.func222.trans (congrArg some (by kernel_rfl))
  t0:=Tryz.underlying0
  a0:=Tryz.isAgg0
  z0:=Tryz.sizeOf0
  v0:=Tryz.zeroValue0
  t3:=Tryz.underlying3
  a3:=Tryz.isAgg3
  z3:=Tryz.sizeOf3
  v3:=Tryz.zeroValue3
  t4:=Tryz.underlying4
  a4:=Tryz.isAgg4
  z4:=Tryz.sizeOf4
  v4:=Tryz.zeroValue4
  t9:=Tryz.underlying9
  a9:=Tryz.isAgg9
  z9:=Tryz.sizeOf9
  v9:=Tryz.zeroValue9
  t37:=Tryz.underlying77
  a37:=Tryz.isAgg77
  z37:=Tryz.sizeOf77
  v37:=Tryz.zeroValue77
  t127:=Tryz.underlying109
  a127:=Tryz.isAgg109
  z127:=Tryz.sizeOf109
  v127:=Tryz.zeroValue109
  t5:=Tryz.underlying5
  a5:=Tryz.isAgg5
  z5:=Tryz.sizeOf5
  v5:=Tryz.zeroValue5
  i0:=by kernel_rfl
  i3:=by kernel_rfl
  i4:=by kernel_rfl
  i5:=by kernel_rfl
  i9:=by kernel_rfl
  i37:=by kernel_rfl
  i127:=by kernel_rfl }
open Go.RowKit in
theorem Tryz.stringslite_Clone (s:ByteArray) (w:World) (hlim:s.size≤281474976710656) :
    Calls Tryz.prog 222 #[.string s] w fun e w'=>e=.returned (.string s)∧Below w.heap.size w w':=Any.stringslite_Clone Tryz.laysM316 s w hlim
def Tryz.laysC174_ren:Go.Shelf.Ren:=⟨fun | 174=>252 | 247=>268 | 245=>269 | 287=>272 | 279=>273 | 280=>274 | 281=>275 | 282=>276 | 321=>277 | 322=>278 | 316=>222 | 171=>112 | 205=>279 | 243=>161 | 246=>198 | 283=>230 | 284=>231 | 285=>232 | 286=>233 | 129=>257 | 317=>256 | 318=>258 | 319=>259 | 320=>260 | 337=>270 | 338=>237 | n=>n,fun | 9=>9 | 3=>3 | 2=>2 | 75=>136 | 85=>270 | 4=>4 | 167=>286 | 5=>5 | 53=>49 | 175=>287 | 46=>208 | 168=>289 | 37=>77 | 0=>0 | 210=>295 | 21=>21 | 127=>109 | 145=>299 | 143=>297 | 171=>253 | 173=>256 | 212=>273 | 51=>274 | 20=>20 | 213=>275 | 232=>292 | 233=>277 | 80=>83 | n=>n,fun | 15=>5 | 16=>6 | 17=>1 | 18=>3 | 19=>2 | n=>n⟩
theorem Tryz.laysC174:Go.Proofs.LaysC.n174 Tryz.prog Tryz.laysC174_ren:={
  mixed:=by kernel_rfl
  f129:=Tryz.func257.trans (congrArg some (by kernel_rfl))
  f171:=Tryz.func112.trans (congrArg some (by kernel_rfl))
  f174:=Tryz.func252.trans (congrArg some (by kernel_rfl))
  f205:=Tryz.func279.trans (congrArg some (by kernel_rfl))
  f243:=Tryz.func161.trans (congrArg some (by kernel_rfl))
  f245:=Tryz.func269.trans (congrArg some (by kernel_rfl))
  f246:=Tryz.func198.trans (congrArg some (by kernel_rfl))
  f247:=Tryz.func268.trans (congrArg some (by kernel_rfl))
  f279:=Tryz.func273.trans (congrArg some (by kernel_rfl))
  f280:=Tryz.func274.trans (congrArg some (by kernel_rfl))
  f281:=Tryz.func275.trans (congrArg some (by kernel_rfl))
  f282:=Tryz.func276.trans (congrArg some (by kernel_rfl))
  f283:=Tryz.func230.trans (congrArg some (by kernel_rfl))
  f284:=Tryz.func231.trans (congrArg some (by kernel_rfl))
  f285:=Tryz.func232.trans (congrArg some (by kernel_rfl))
  f286:=Tryz.func233.trans (congrArg some (by kernel_rfl))
  f287:=Tryz.func272.trans (congrArg some (by kernel_rfl))
  f316:=Tryz.func222.trans (congrArg some (by kernel_rfl))
  f317:=Tryz.func256.trans (congrArg some (by kernel_rfl))
  f318:=Tryz.func258.trans (congrArg some (by kernel_rfl))
  f319:=Tryz.func259.trans (congrArg some (by kernel_rfl))
  f320:=Tryz.func260.trans (congrArg some (by kernel_rfl))
  f321:=Tryz.func277.trans (congrArg some (by kernel_rfl))
  f322:=Tryz.func278.trans (congrArg some (by kernel_rfl))
  f337:=Tryz.func270.trans (congrArg some (by kernel_rfl))
  f338:=Tryz.func237.trans (congrArg some (by kernel_rfl))
  t0:=Tryz.underlying0
  a0:=Tryz.isAgg0
  z0:=Tryz.sizeOf0
  v0:=Tryz.zeroValue0
  t2:=Tryz.underlying2
  a2:=Tryz.isAgg2
  z2:=Tryz.sizeOf2
  v2:=Tryz.zeroValue2
  t3:=Tryz.underlying3
  a3:=Tryz.isAgg3
  z3:=Tryz.sizeOf3
  v3:=Tryz.zeroValue3
  t4:=Tryz.underlying4
  a4:=Tryz.isAgg4
  z4:=Tryz.sizeOf4
  v4:=Tryz.zeroValue4
  t5:=Tryz.underlying5
  a5:=Tryz.isAgg5
  z5:=Tryz.sizeOf5
  v5:=Tryz.zeroValue5
  t9:=Tryz.underlying9
  a9:=Tryz.isAgg9
  z9:=Tryz.sizeOf9
  v9:=Tryz.zeroValue9
  t20:=Tryz.underlying20
  a20:=Tryz.isAgg20
  z20:=Tryz.sizeOf20
  v20:=Tryz.zeroValue20
  t21:=Tryz.underlying21
  a21:=Tryz.isAgg21
  z21:=Tryz.sizeOf21
  v21:=Tryz.zeroValue21
  t37:=Tryz.underlying77
  a37:=Tryz.isAgg77
  z37:=Tryz.sizeOf77
  v37:=Tryz.zeroValue77
  t46:=Tryz.underlying208
  a46:=Tryz.isAgg208
  z46:=Tryz.sizeOf208
  v46:=Tryz.zeroValue208
  t51:=Tryz.underlying274
  a51:=Tryz.isAgg274
  z51:=Tryz.sizeOf274
  v51:=Tryz.zeroValue274
  t53:=Tryz.underlying49
  a53:=Tryz.isAgg49
  z53:=Tryz.sizeOf49
  v53:=Tryz.zeroValue49
  t75:=Tryz.underlying136
  a75:=Tryz.isAgg136
  z75:=Tryz.sizeOf136
  v75:=Tryz.zeroValue136
  t85:=Tryz.underlying270
  a85:=Tryz.isAgg270
  z85:=Tryz.sizeOf270
  v85:=Tryz.zeroValue270
  t127:=Tryz.underlying109
  a127:=Tryz.isAgg109
  z127:=Tryz.sizeOf109
  v127:=Tryz.zeroValue109
  t143:=Tryz.underlying297
  a143:=Tryz.isAgg297
  z143:=Tryz.sizeOf297
  v143:=Tryz.zeroValue297
  t145:=Tryz.underlying299
  a145:=Tryz.isAgg299
  z145:=Tryz.sizeOf299
  v145:=Tryz.zeroValue299
  t167:=Tryz.underlying286
  a167:=Tryz.isAgg286
  z167:=Tryz.sizeOf286
  v167:=Tryz.zeroValue286
  t168:=Tryz.underlying289
  a168:=Tryz.isAgg289
  z168:=Tryz.sizeOf289
  v168:=Tryz.zeroValue289
  t171:=Tryz.underlying253
  a171:=Tryz.isAgg253
  z171:=Tryz.sizeOf253
  v171:=Tryz.zeroValue253
  t173:=Tryz.underlying256
  a173:=Tryz.isAgg256
  z173:=Tryz.sizeOf256
  v173:=Tryz.zeroValue256
  t175:=Tryz.underlying287
  a175:=Tryz.isAgg287
  z175:=Tryz.sizeOf287
  v175:=Tryz.zeroValue287
  t210:=Tryz.underlying295
  a210:=Tryz.isAgg295
  z210:=Tryz.sizeOf295
  v210:=Tryz.zeroValue295
  t212:=Tryz.underlying273
  a212:=Tryz.isAgg273
  z212:=Tryz.sizeOf273
  v212:=Tryz.zeroValue273
  t213:=Tryz.underlying275
  a213:=Tryz.isAgg275
  z213:=Tryz.sizeOf275
  t232:=Tryz.underlying292
  a232:=Tryz.isAgg292
  z232:=Tryz.sizeOf292
  v232:=Tryz.zeroValue292
  t233:=Tryz.underlying277
  a233:=Tryz.isAgg277
  z233:=Tryz.sizeOf277
  v233:=Tryz.zeroValue277
  g15:=by kernel_rfl
  g16:=by kernel_rfl
  g17:=by kernel_rfl
  g18:=by kernel_rfl
  g19:=by kernel_rfl
  t80:=Tryz.underlying83
  a80:=Tryz.isAgg83
  z80:=Tryz.sizeOf83
  v80:=Tryz.zeroValue83
  i0:=by kernel_rfl
  i2:=by kernel_rfl
  i3:=by kernel_rfl
  i4:=by kernel_rfl
  i5:=by kernel_rfl
  i9:=by kernel_rfl
  i20:=by kernel_rfl
  i21:=by kernel_rfl
  i37:=by kernel_rfl
  i46:=by kernel_rfl
  i51:=by kernel_rfl
  i53:=by kernel_rfl
  i75:=by kernel_rfl
  i80:=by kernel_rfl
  i85:=by kernel_rfl
  i127:=by kernel_rfl
  i143:=by kernel_rfl
  i145:=by kernel_rfl
  i167:=by kernel_rfl
  i168:=by kernel_rfl
  i171:=by kernel_rfl
  i173:=by kernel_rfl
  i175:=by kernel_rfl
  i210:=by kernel_rfl
  i212:=by kernel_rfl
  i232:=by kernel_rfl
  i233:=by kernel_rfl
  m15:=by kernel_rfl
  m16:=by kernel_rfl
  m17:=by kernel_rfl
  m18:=by kernel_rfl
  m19:=by kernel_rfl
  c0:=by kernel_rfl
  c2:=by kernel_rfl
  c3:=by kernel_rfl
  c4:=by kernel_rfl
  c5:=by kernel_rfl
  c9:=by kernel_rfl
  c20:=by kernel_rfl
  c21:=by kernel_rfl
  c37:=by kernel_rfl
  c46:=by kernel_rfl
  c51:=by kernel_rfl
  c53:=by kernel_rfl
  c75:=by kernel_rfl
  c80:=by kernel_rfl
  c85:=by kernel_rfl
  c127:=by kernel_rfl
  c143:=by kernel_rfl
  c145:=by kernel_rfl
  c167:=by kernel_rfl
  c168:=by kernel_rfl
  c171:=by kernel_rfl
  c173:=by kernel_rfl
  c175:=by kernel_rfl
  c210:=by kernel_rfl
  c212:=by kernel_rfl
  c213:=by kernel_rfl
  c232:=by kernel_rfl
  c233:=by kernel_rfl }
open Go.RowKit in
theorem Tryz.strconv_ParseInt_10_at64_ok (s:ByteArray) (hmax:s.size≤9223372036854775806) (v:Int) (h:Lib.parseIntB 64 s.data.toList=.ok v) (w:World) :
    Calls Tryz.prog 252 #[.string s,.int .i64 10,.int .i64 64] w fun e w'=>e=.returned (.tuple #[.int .i64 v,.nilIface])∧(w'=w ∨ ∃ t,w'=Lib.bytesWorld w 5 t):=Any.strconv_ParseInt_10_at64_ok Tryz.laysC174 s hmax v h w
open Go.RowKit in
theorem Tryz.strconv_ParseInt_10_at64_range (s:ByteArray) (hlim:s.size≤281474976710656) (h:Lib.parseIntB 64 s.data.toList=.range) (ev:Value) (w:World) (hv:w.cell? ⟨6,0,none⟩=some ev) (hev:ev=.nilIface ∨ ∃ te pe,ev=.iface te pe) :
    Calls Tryz.prog 252 #[.string s,.int .i64 10,.int .i64 64] w fun e w'=>∃ N,e=.returned (.tuple #[.int .i64 (Lib.intSat 64 s.data.toList),.iface 289 (.pointer (some ⟨N,0,none⟩))])∧w.heap.size≤N∧w'.heap[N]?=some (.cells #[.string ⟨#[80,97,114,115,101,73,110,116]⟩,.string s,ev] 295 (0,0))∧Below w.heap.size w w':=Any.strconv_ParseInt_10_at64_range Tryz.laysC174 s hlim h ev w hv hev
def Tryz.lays105_ren:Go.Shelf.Ren:=⟨fun | 105=>205 | 212=>239 | 99=>240 | 165=>241 | 166=>83 | 170=>103 | 169=>34 | 263=>263 | 264=>264 | 206=>265 | 240=>141 | 241=>266 | 276=>179 | 277=>271 | n=>n,fun | 9=>9 | 3=>3 | 4=>4 | 20=>20 | 0=>0 | 46=>208 | 109=>259 | 5=>5 | 72=>79 | 76=>137 | 51=>274 | 146=>278 | 53=>49 | 148=>280 | 70=>76 | 37=>77 | 75=>136 | 127=>109 | 164=>219 | 80=>83 | n=>n,fun | n=>n⟩
theorem Tryz.lays105:Go.Proofs.Lays.n105 Tryz.prog Tryz.lays105_ren:={
  mixed:=by kernel_rfl
  f99:=Tryz.func240.trans (congrArg some (by kernel_rfl))
  f105:=Tryz.func205.trans (congrArg some (by kernel_rfl))
  f165:=Tryz.func241.trans (congrArg some (by kernel_rfl))
  f166:=Tryz.func83.trans (congrArg some (by kernel_rfl))
  f169:=Tryz.func34.trans (congrArg some (by kernel_rfl))
  f170:=Tryz.func103.trans (congrArg some (by kernel_rfl))
  f206:=Tryz.func265.trans (congrArg some (by kernel_rfl))
  f212:=Tryz.func239.trans (congrArg some (by kernel_rfl))
  f240:=Tryz.func141.trans (congrArg some (by kernel_rfl))
  f241:=Tryz.func266.trans (congrArg some (by kernel_rfl))
  f263:=Tryz.func263.trans (congrArg some (by kernel_rfl))
  f264:=Tryz.func264.trans (congrArg some (by kernel_rfl))
  f276:=Tryz.func179.trans (congrArg some (by kernel_rfl))
  f277:=Tryz.func271.trans (congrArg some (by kernel_rfl))
  t0:=Tryz.underlying0
  a0:=Tryz.isAgg0
  z0:=Tryz.sizeOf0
  v0:=Tryz.zeroValue0
  t3:=Tryz.underlying3
  a3:=Tryz.isAgg3
  z3:=Tryz.sizeOf3
  v3:=Tryz.zeroValue3
  t4:=Tryz.underlying4
  a4:=Tryz.isAgg4
  z4:=Tryz.sizeOf4
  v4:=Tryz.zeroValue4
  t5:=Tryz.underlying5
  a5:=Tryz.isAgg5
  z5:=Tryz.sizeOf5
  v5:=Tryz.zeroValue5
  t9:=Tryz.underlying9
  a9:=Tryz.isAgg9
  z9:=Tryz.sizeOf9
  v9:=Tryz.zeroValue9
  t20:=Tryz.underlying20
  a20:=Tryz.isAgg20
  z20:=Tryz.sizeOf20
  v20:=Tryz.zeroValue20
  t37:=Tryz.underlying77
  a37:=Tryz.isAgg77
  z37:=Tryz.sizeOf77
  v37:=Tryz.zeroValue77
  t46:=Tryz.underlying208
  a46:=Tryz.isAgg208
  z46:=Tryz.sizeOf208
  v46:=Tryz.zeroValue208
  t51:=Tryz.underlying274
  a51:=Tryz.isAgg274
  z51:=Tryz.sizeOf274
  v51:=Tryz.zeroValue274
  t53:=Tryz.underlying49
  a53:=Tryz.isAgg49
  z53:=Tryz.sizeOf49
  v53:=Tryz.zeroValue49
  t70:=Tryz.underlying76
  a70:=Tryz.isAgg76
  z70:=Tryz.sizeOf76
  v70:=Tryz.zeroValue76
  t72:=Tryz.underlying79
  a72:=Tryz.isAgg79
  z72:=Tryz.sizeOf79
  v72:=Tryz.zeroValue79
  t75:=Tryz.underlying136
  a75:=Tryz.isAgg136
  z75:=Tryz.sizeOf136
  v75:=Tryz.zeroValue136
  t76:=Tryz.underlying137
  a76:=Tryz.isAgg137
  z76:=Tryz.sizeOf137
  v76:=Tryz.zeroValue137
  t109:=Tryz.underlying259
  a109:=Tryz.isAgg259
  z109:=Tryz.sizeOf259
  v109:=Tryz.zeroValue259
  t127:=Tryz.underlying109
  a127:=Tryz.isAgg109
  z127:=Tryz.sizeOf109
  v127:=Tryz.zeroValue109
  t146:=Tryz.underlying278
  a146:=Tryz.isAgg278
  z146:=Tryz.sizeOf278
  v146:=Tryz.zeroValue278
  t148:=Tryz.underlying280
  a148:=Tryz.isAgg280
  z148:=Tryz.sizeOf280
  v148:=Tryz.zeroValue280
  t164:=Tryz.underlying219
  a164:=Tryz.isAgg219
  z164:=Tryz.sizeOf219
  v164:=Tryz.zeroValue219 }
theorem Tryz.Builder_Extra_105:Builder.Extra Tryz.prog Tryz.lays105_ren:={
  sizeBuilder:=by kernel_rfl
  liesBuilder:=by kernel_rfl
  t5:=Tryz.underlying5
  a5:=Tryz.isAgg5
  z5:=Tryz.sizeOf5
  v5:=Tryz.zeroValue5
  infoByte:=by kernel_rfl
  cellsByte:=by kernel_rfl
  sizeByte:=by kernel_rfl
  neB5:=by decide }
open Go.RowKit Go.Lib in
theorem Tryz.strings_Repeat (s:ByteArray) (c:Nat) (w:World) (hc:c≤9223372036854775807) (hlen:s.size * c≤140737488355328) :
    Calls Tryz.prog 205 #[.string s,.int .i64 c] w fun e w'=>e=.returned (.string ⟨(Lib.repeatL s.data.toList c).toArray⟩)∧Below w.heap.size w w':=Any.strings_Repeat Tryz.lays105 Tryz.Builder_Extra_105 s c w hc hlen
def Tryz.lays110_ren:Go.Shelf.Ren:=⟨fun | 110=>235 | 109=>224 | n=>n,fun | 31=>22 | 9=>9 | 4=>4 | 3=>3 | 0=>0 | n=>n,fun | n=>n⟩
theorem Tryz.lays110:Go.Proofs.Lays.n110 Tryz.prog Tryz.lays110_ren:={
  mixed:=by kernel_rfl
  f109:=Tryz.func224.trans (congrArg some (by kernel_rfl))
  f110:=Tryz.func235.trans (congrArg some (by kernel_rfl))
  t0:=Tryz.underlying0
  a0:=Tryz.isAgg0
  z0:=Tryz.sizeOf0
  v0:=Tryz.zeroValue0
  t3:=Tryz.underlying3
  a3:=Tryz.isAgg3
  z3:=Tryz.sizeOf3
  v3:=Tryz.zeroValue3
  t4:=Tryz.underlying4
  a4:=Tryz.isAgg4
  z4:=Tryz.sizeOf4
  v4:=Tryz.zeroValue4
  t9:=Tryz.underlying9
  a9:=Tryz.isAgg9
  z9:=Tryz.sizeOf9
  v9:=Tryz.zeroValue9
  t31:=Tryz.underlying22
  a31:=Tryz.isAgg22
  z31:=Tryz.sizeOf22
  v31:=Tryz.zeroValue22 }
open Go.Lib in
theorem Tryz.slices_Contains_string (b off n c:Nat) (zs:List ByteArray) (x:ByteArray) (w:World) (hz:n≤zs.length) (hbig:n≤9223372036854775807) (hc:∀ j,j<zs.length→w.cell? ⟨b,off+j,none⟩=some (.string (zs.getD j ByteArray.empty))) :
    Calls Tryz.prog 235 #[.slice (some ⟨b,off,none⟩) n c,.string x] w fun e w'=>e=.returned (.bool (Lib.containsS (zs.take n) x))∧w'=w:=Any.slices_Contains_string Tryz.lays110 b off n c zs x w hz hbig hc
end Go.Proofs
namespace Go.Proofs.YtpcniebkabkikaaGreatDoor
open Go Go.RowKit
def Env (w:World):Prop:=∃ te pe,w.cell? ⟨6,0,none⟩=some (.iface te pe)
theorem Env.lt {w:World} (h:Env w):6<w.heap.size:=by
  obtain ⟨te,pe,h⟩:=h
  exact World.block_lt_of_cell? _ _ h
theorem Env.below {B:Nat} {w w':World} (h:Env w) (hb:Below B w w') (hB:6<B):Env w':=by
  obtain ⟨te,pe,h⟩:=h
  exact ⟨te,pe,(hb.cell (p:=⟨6,0,none⟩) hB).trans h⟩
abbrev tokV (k:Int) (t:ByteArray) (v a:Int):Value:=.agg #[.int .i64 k,.string t,.int .i64 v,.int .i64 a]
set_option maxRecDepth 100000 in
theorem name_key (s:ByteArray) (h:bl s ∈ keysL) (w:World):Calls Tryz.prog 216 #[.string s] w fun e w'=>e=.returned (.tuple #[tokV 2 s 0 0,.int .i64 0])∧Below w.heap.size w w':=by
  go_enter Tryz.func216,Tryz.ntmps216
  go_wp2_with (go_at_call 251;refine (isKeyword_yes s h _).mono ?_;rintro e w' ⟨rfl,rfl⟩)
  exact bodyPost_ret (v:=.tuple #[tokV 2 s 0 0,.int .i64 0]) (by simp [results,Tryz.results216,go_sem]) rfl ⟨rfl,by first | exact ((Below.refl _ _).alloc (Nat.le_refl _) _)⟩
set_option maxRecDepth 100000 in
theorem name_long (s:ByteArray) (h:bl s ∉ keysL) (hl:32<s.size) (w:World):Calls Tryz.prog 216 #[.string s] w fun e w'=>e=.returned (.tuple #[tokV 0 ⟨#[]⟩ 0 0,.int .i64 3])∧Below w.heap.size w w':=by
  go_enter Tryz.func216,Tryz.ntmps216
  go_wp2_with (go_at_call 251;refine (isKeyword_no s h _).mono ?_;rintro e w' ⟨rfl,rfl⟩)
  exact bodyPost_ret (v:=.tuple #[tokV 0 ⟨#[]⟩ 0 0,.int .i64 3]) (by simp [results,Tryz.results216,go_sem]) rfl ⟨rfl,(Below.refl _ _).alloc (Nat.le_refl _) _⟩
set_option maxRecDepth 100000 in
theorem name_ok (s:ByteArray) (h:bl s ∉ keysL) (hl:s.size≤32) (w:World):Calls Tryz.prog 216 #[.string s] w fun e w'=>e=.returned (.tuple #[tokV 1 s 0 0,.int .i64 0])∧Below w.heap.size w w':=by
  go_enter Tryz.func216,Tryz.ntmps216
  go_wp2_with (go_at_call 251;refine (isKeyword_no s h _).mono ?_;rintro e w' ⟨rfl,rfl⟩)
  exact bodyPost_ret (v:=.tuple #[tokV 1 s 0 0,.int .i64 0]) (by simp [results,Tryz.results216,go_sem]) rfl ⟨rfl,(Below.refl _ _).alloc (Nat.le_refl _) _⟩
theorem parse_ok (s:ByteArray) (h0:0<s.size) (hd:∀ x ∈ bl s,digitB x=true) (hs:s.size≤281474976710656) (hv:valD (bl s)≤most) (w:World) :
    Calls Tryz.prog 252 #[.string s,.int .i64 10,.int .i64 64] w fun e w'=>e=.returned (.tuple #[.int .i64 ((valD (bl s):Nat):Int),.nilIface])∧Below w.heap.size w w':=by
  have hne:s.data.toList ≠ []:=by
    intro e
    rw [← bl_length,bl,e] at h0
    exact absurd h0 (by simp)
  have hp:=parse_digits s.data.toList hne hd
  change _=if valD (bl s)≤most then Lib.NumEnd.ok ((valD (bl s):Nat):Int) else _ at hp
  rw [if_pos hv] at hp
  refine (Tryz.strconv_ParseInt_10_at64_ok s (by omega) _ hp w).mono ?_
  rintro e w' ⟨rfl,rfl | ⟨t,rfl⟩⟩
  · exact ⟨rfl,Below.refl _ _⟩
  · exact ⟨rfl,Lib.bytesWorld_below _ _ _⟩
theorem parse_big (s:ByteArray) (h0:0<s.size) (hd:∀ x ∈ bl s,digitB x=true) (hs:s.size≤281474976710656) (hv:most<valD (bl s)) (w:World) (hE:Env w) :
    Calls Tryz.prog 252 #[.string s,.int .i64 10,.int .i64 64] w fun e w'=>∃ z N,e=.returned (.tuple #[.int .i64 z,.iface 289 (.pointer (some ⟨N,0,none⟩))])∧Below w.heap.size w w':=by
  have hne:s.data.toList ≠ []:=by
    intro e
    rw [← bl_length,bl,e] at h0
    exact absurd h0 (by simp)
  have hp:=parse_digits s.data.toList hne hd
  change _=if valD (bl s)≤most then Lib.NumEnd.ok ((valD (bl s):Nat):Int) else _ at hp
  rw [if_neg (by omega)] at hp
  obtain ⟨te,pe,hE⟩:=hE
  refine (Tryz.strconv_ParseInt_10_at64_range s hs hp _ w hE (.inr ⟨te,pe,rfl⟩)).mono ?_
  rintro e w' ⟨N,rfl,_,_,hb⟩
  exact ⟨_,N,rfl,hb⟩
structure TokAt (w:World) (g:Nat) (k:Int) (t:ByteArray) (v a:Int):Prop where
  c0:w.cell? ⟨g,0,none⟩=some (.int .i64 k)
  c1:w.cell? ⟨g,1,none⟩=some (.string t)
  c2:w.cell? ⟨g,2,none⟩=some (.int .i64 v)
  c3:w.cell? ⟨g,3,none⟩=some (.int .i64 a)
  f0:w.frozen? ⟨g,0,none⟩=false
  f1:w.frozen? ⟨g,1,none⟩=false
  f2:w.frozen? ⟨g,2,none⟩=false
  f3:w.frozen? ⟨g,3,none⟩=false
theorem TokAt.new (w:World) (k:Int) (t:ByteArray) (v a:Int) (T:TypeId):TokAt (w.alloc (.cells #[.int .i64 k,.string t,.int .i64 v,.int .i64 a] T)) w.heap.size k t v a :=
  ⟨by simp [go_sem],by simp [go_sem],by simp [go_sem],by simp [go_sem],by simp [go_sem],by simp [go_sem],by simp [go_sem],by simp [go_sem]⟩
theorem TokAt.below {w w':World} {B g:Nat} {k:Int} {t:ByteArray} {v a:Int} (h:TokAt w g k t v a) (hb:Below B w w') (hg:g<B):TokAt w' g k t v a :=
  ⟨(hb.cell (p:=⟨g,0,none⟩) hg).trans h.c0,(hb.cell (p:=⟨g,1,none⟩) hg).trans h.c1,(hb.cell (p:=⟨g,2,none⟩) hg).trans h.c2,(hb.cell (p:=⟨g,3,none⟩) hg).trans h.c3,
   (hb.frozen (p:=⟨g,0,none⟩) hg).trans h.f0,(hb.frozen (p:=⟨g,1,none⟩) hg).trans h.f1,(hb.frozen (p:=⟨g,2,none⟩) hg).trans h.f2,(hb.frozen (p:=⟨g,3,none⟩) hg).trans h.f3⟩
theorem TokAt.lt {w:World} {g:Nat} {k:Int} {t:ByteArray} {v a:Int} (h:TokAt w g k t v a):g<w.heap.size:=World.block_lt_of_cell? _ _ h.c0
theorem set4 {w w1:World} (hB:Below w.heap.size w w1) {g:Nat} (hg:w.heap.size≤g) (x0 x1 x2 x3:Value) :
    Below w.heap.size w ((((w1.setCell ⟨g,0,none⟩ x0).setCell ⟨g,1,none⟩ x1).setCell ⟨g,2,none⟩ x2).setCell ⟨g,3,none⟩ x3) :=
  (((hB.setCell (p:=⟨g,0,none⟩) hg _).setCell (p:=⟨g,1,none⟩) hg _).setCell (p:=⟨g,2,none⟩) hg _).setCell (p:=⟨g,3,none⟩) hg _
set_option maxRecDepth 100000 in
theorem number_ok (s:ByteArray) (h0:0<s.size) (hd:∀ x ∈ bl s,digitB x=true) (hs:s.size≤281474976710656) (hv:valD (bl s)≤most) (w:World) :
    Calls Tryz.prog 220 #[.string s] w fun e w'=>e=.returned (.tuple #[tokV 3 s ((valD (bl s):Nat):Int) 0,.int .i64 0])∧Below w.heap.size w w':=by
  have hcall:=Lib.hid (fun W=>parse_ok s h0 hd hs hv W)
  clear h0 hd hs hv
  generalize valD (bl s)=V at *
  go_enter Tryz.func220,Tryz.ntmps220
  go_wp2_with (go_at_call 252;refine (hcall.out _).mono ?_)
  rintro e w1 ⟨rfl,hb⟩
  have s1:=hb.size
  simp only [World.size_alloc] at s1
  obtain ⟨k0,k1,k2,k3,f0,f1,f2,f3⟩:=(TokAt.new w 0 ⟨#[]⟩ 0 0 151).below hb (by simp)
  have hB:Below w.heap.size w w1:=((Below.refl _ w).alloc (Nat.le_refl _) _).trans (hb.mono (by simp))
  go_wp2
  exact bodyPost_ret (v:=.tuple #[tokV 3 s (V:Int) 0,.int .i64 0]) (by simp [results,Tryz.results220,go_sem,k0,k1,k2,k3]) rfl ⟨rfl,set4 hB (Nat.le_refl _) _ _ _ _⟩
set_option maxRecDepth 100000 in
theorem number_big (s:ByteArray) (h0:0<s.size) (hd:∀ x ∈ bl s,digitB x=true) (hs:s.size≤281474976710656) (hv:most<valD (bl s)) (w:World) (hE:Env w) :
    Calls Tryz.prog 220 #[.string s] w fun e w'=>e=.returned (.tuple #[tokV 0 ⟨#[]⟩ 0 0,.int .i64 3])∧Below w.heap.size w w':=by
  have hlt:=hE.lt
  have hcall:=Lib.hid (parse_big s h0 hd hs hv _ (hE.below ((Below.refl _ w).alloc (Nat.le_refl _) (.cells #[.int .i64 0,.string ⟨#[]⟩,.int .i64 0,.int .i64 0] 151)) hlt))
  clear h0 hd hs hv
  go_enter Tryz.func220,Tryz.ntmps220
  go_wp2_with (go_at_call 252;refine (hcall.out).mono ?_)
  rintro e w1 ⟨z,N,rfl,hb⟩
  have s1:=hb.size
  simp only [World.size_alloc] at s1
  obtain ⟨k0,k1,k2,k3,f0,f1,f2,f3⟩:=(TokAt.new w 0 ⟨#[]⟩ 0 0 151).below hb (by simp)
  have hB:Below w.heap.size w w1:=((Below.refl _ w).alloc (Nat.le_refl _) _).trans (hb.mono (by simp))
  go_wp2
  exact bodyPost_ret (v:=.tuple #[tokV 0 ⟨#[]⟩ 0 0,.int .i64 3]) (by simp [results,Tryz.results220,go_sem,k0,k1,k2,k3]) rfl ⟨rfl,set4 hB (Nat.le_refl _) _ _ _ _⟩
set_option maxRecDepth 100000 in
theorem mark_two (s:ByteArray) (h2:2≤s.size) (hs:s.size≤9223372036854775806) (h:bl (s.extract 0 2) ∈ marksL) (w:World) :
    Calls Tryz.prog 221 #[.string s] w fun e w'=>e=.returned (.tuple #[tokV 4 (s.extract 0 2) 0 0,.int .i64 0])∧Below w.heap.size w w':=by
  have hcall:=Lib.hid (fun W=>isMark_yes (s.extract 0 2) h W)
  have hm:min (2:Int) (s.size:Int)=2:=by omega
  clear h
  go_enter Tryz.func221,Tryz.ntmps221
  go_wp2
  go_loop [4] (fun i=>i=.int .i64 2) (fun i=>(intOf i).toNat)
  case atStart=>rfl
  case round =>
    obtain rfl:=hrel
    go_wp2_with (go_at_call 253;refine (hcall.out _).mono ?_;rintro e w' ⟨rfl,rfl⟩)
    exact bodyPost_ret (v:=.tuple #[tokV 4 (s.extract 0 2) 0 0,.int .i64 0]) (by simp [results,Tryz.results221,go_sem]) rfl ⟨rfl,(Below.refl _ _).alloc (Nat.le_refl _) _⟩
set_option maxRecDepth 100000 in
theorem mark_one (s:ByteArray) (h1:1≤s.size) (hs:s.size≤9223372036854775806) (h:bl (s.extract 0 1) ∈ marksL) (hn:2≤s.size→bl (s.extract 0 2) ∉ marksL) (w:World) :
    Calls Tryz.prog 221 #[.string s] w fun e w'=>e=.returned (.tuple #[tokV 4 (s.extract 0 1) 0 0,.int .i64 0])∧Below w.heap.size w w':=by
  have hcall:=Lib.hid (fun W=>isMark_yes (s.extract 0 1) h W)
  have hcall2:=Lib.hid (fun (h2:2≤s.size) W=>isMark_no (s.extract 0 2) (hn h2) W)
  have hm:(∃ k:Nat,1≤k∧k≤2∧k≤s.size∧min (2:Int) (s.size:Int)=k):=by
    by_cases h2:2≤s.size
    · exact ⟨2,by omega,by omega,by omega,by omega⟩
    · exact ⟨1,by omega,by omega,by omega,by omega⟩
  obtain ⟨k0,hk1,hk2,hk3,hm⟩:=hm
  clear h hn
  go_enter Tryz.func221,Tryz.ntmps221
  go_wp2
  go_loop [4] (fun i=>∃ k:Nat,1≤k∧k≤2∧k≤s.size∧i=.int .i64 k) (fun i=>(intOf i).toNat)
  case atStart=>exact ⟨k0,hk1,hk2,hk3,rfl⟩
  case round =>
    clear hm hk1 hk2 hk3
    obtain ⟨k,hk1,hk2,hk3,rfl⟩:=hrel
    by_cases h2:k=2
    · subst h2
      have hc:=hcall2.out hk3
      go_wp2_with (go_at_call 253;refine (hc _).mono ?_;rintro e w' ⟨rfl,rfl⟩)
      go_round
      case rel=>exact ⟨1,by omega,by omega,by omega,by go_num⟩
      case measure=>simp [intOf]
    · obtain rfl:k=1:=by omega
      go_wp2_with (go_at_call 253;refine (hcall.out _).mono ?_;rintro e w' ⟨rfl,rfl⟩)
      exact bodyPost_ret (v:=.tuple #[tokV 4 (s.extract 0 1) 0 0,.int .i64 0]) (by simp [results,Tryz.results221,go_sem]) rfl ⟨rfl,(Below.refl _ _).alloc (Nat.le_refl _) _⟩
set_option maxRecDepth 100000 in
theorem mark_no (s:ByteArray) (h1:1≤s.size) (hs:s.size≤9223372036854775806) (h:bl (s.extract 0 1) ∉ marksL) (hn:2≤s.size→bl (s.extract 0 2) ∉ marksL) (w:World) :
    Calls Tryz.prog 221 #[.string s] w fun e w'=>e=.returned (.tuple #[tokV 0 ⟨#[]⟩ 0 0,.int .i64 40])∧Below w.heap.size w w':=by
  have hcall:=Lib.hid (fun W=>isMark_no (s.extract 0 1) h W)
  have hcall2:=Lib.hid (fun (h2:2≤s.size) W=>isMark_no (s.extract 0 2) (hn h2) W)
  have hm:(∃ k:Nat,k≤2∧k≤s.size∧min (2:Int) (s.size:Int)=k):=by
    by_cases h2:2≤s.size
    · exact ⟨2,by omega,by omega,by omega⟩
    · exact ⟨1,by omega,by omega,by omega⟩
  obtain ⟨k0,hk2,hk3,hm⟩:=hm
  clear h hn
  go_enter Tryz.func221,Tryz.ntmps221
  go_wp2
  go_loop [4] (fun i=>∃ k:Nat,k≤2∧k≤s.size∧i=.int .i64 k) (fun i=>(intOf i).toNat)
  case atStart=>exact ⟨k0,hk2,hk3,rfl⟩
  case round =>
    clear hm hk2 hk3
    obtain ⟨k,hk2,hk3,rfl⟩:=hrel
    by_cases h2:k=2
    · subst h2
      have hc:=hcall2.out hk3
      go_wp2_with (go_at_call 253;refine (hc _).mono ?_;rintro e w' ⟨rfl,rfl⟩)
      go_round
      case rel=>exact ⟨1,by omega,by omega,by go_num⟩
      case measure=>simp [intOf]
    by_cases h1':k=1
    · subst h1'
      go_wp2_with (go_at_call 253;refine (hcall.out _).mono ?_;rintro e w' ⟨rfl,rfl⟩)
      go_round
      case rel=>exact ⟨0,by omega,by omega,by go_num⟩
      case measure=>simp [intOf]
    · obtain rfl:k=0:=by omega
      go_wp2
      exact bodyPost_ret (v:=.tuple #[tokV 0 ⟨#[]⟩ 0 0,.int .i64 40]) (by simp [results,Tryz.results221,go_sem]) rfl ⟨rfl,(Below.refl _ _).alloc (Nat.le_refl _) _⟩
end Go.Proofs.YtpcniebkabkikaaGreatDoor
namespace Go.Proofs.YtpcniebkabkikaaGreatDoor
open Go Go.RowKit
def TokRes (W:World) (k:Int) (t:ByteArray) (v er:Int) (e:Ending) (W':World):Prop:=e=.returned (.tuple #[tokV k t v 0,.int .i64 er])∧Below W.heap.size W W'
theorem below_box {w w1:World} {o:Obj} (hb:Below (w.alloc o).heap.size (w.alloc o) w1):Below w.heap.size w w1 :=
  ((Below.refl _ w).alloc (Nat.le_refl _) o).trans (hb.mono (by simp))
set_option maxRecDepth 100000 in
theorem first_letter (s:ByteArray) (h0:0<s.size) (hs:s.size≤9223372036854775806) (hl:letterB (s[0]).toNat=true) (k:Int) (t:ByteArray) (v er:Int) (n:Nat) (hn:((bl s).takeWhile nameB).length=n)
    (hcall:∀ W,Env W→Calls Tryz.prog 216 #[.string (s.extract 0 n)] W (TokRes W k t v er)) (w:World) (hE:Env w):Calls Tryz.prog 175 #[.string s] w (TokRes w k t v er):=by
  have hlt:=hE.lt
  have hn2:n≤s.size:=by rw [← hn,← bl_length];exact (List.takeWhile_sublist _).length_le
  have hl1:=Lib.hid (fun W=>hl ▸ isLetter_any (s[0]).toNat W)
  have hr:=Lib.hid (fun W=>hn ▸ run_name s hs W)
  have hc:=Lib.hid (hcall _ (hE.below ((Below.refl _ w).alloc (Nat.le_refl _) (.cells #[.int .i64 0,.string ⟨#[]⟩,.int .i64 0,.int .i64 0] 151)) hlt))
  clear hl hcall hn
  go_enter Tryz.func175,Tryz.ntmps175
  go_wp2_with (first | (go_at_call 215;refine (hl1.out _).mono ?_;rintro e w' ⟨rfl,rfl⟩) | (go_at_call 217;refine (hr.out _).mono ?_;rintro e w' ⟨rfl,rfl⟩) | (go_at_call 216;refine hc.out.mono ?_))
  rintro e w1 ⟨rfl,hb⟩
  have s1:=hb.size
  simp only [World.size_alloc] at s1
  obtain ⟨k0,k1,k2,k3,f0,f1,f2,f3⟩:=(TokAt.new w 0 ⟨#[]⟩ 0 0 151).below hb (by simp)
  have hB:=below_box hb
  clear hb
  go_wp2
  exact bodyPost_ret (v:=.tuple #[tokV k t v 0,.int .i64 er]) (by simp [results,Tryz.results175,go_sem,k0,k1,k2,k3]) rfl ⟨rfl,set4 hB (Nat.le_refl _) _ _ _ _⟩
set_option maxRecDepth 100000 in
theorem first_digit (s:ByteArray) (h0:0<s.size) (hs:s.size≤9223372036854775806) (hl:letterB (s[0]).toNat=false) (hd:digitB (s[0]).toNat=true) (k:Int) (t:ByteArray) (v er:Int) (n:Nat) (hn:((bl s).takeWhile digitB).length=n)
    (hcall:∀ W,Env W→Calls Tryz.prog 220 #[.string (s.extract 0 n)] W (TokRes W k t v er)) (w:World) (hE:Env w):Calls Tryz.prog 175 #[.string s] w (TokRes w k t v er):=by
  have hlt:=hE.lt
  have hn2:n≤s.size:=by rw [← hn,← bl_length];exact (List.takeWhile_sublist _).length_le
  have hl1:=Lib.hid (fun W=>hl ▸ isLetter_any (s[0]).toNat W)
  have hd1:=Lib.hid (fun W=>hd ▸ isDigit_any (s[0]).toNat W)
  have hr:=Lib.hid (fun W=>hn ▸ run_digit s hs W)
  have hc:=Lib.hid (hcall _ (hE.below ((Below.refl _ w).alloc (Nat.le_refl _) (.cells #[.int .i64 0,.string ⟨#[]⟩,.int .i64 0,.int .i64 0] 151)) hlt))
  clear hl hd hcall hn
  go_enter Tryz.func175,Tryz.ntmps175
  go_wp2_with (first | (go_at_call 215;refine (hl1.out _).mono ?_;rintro e w' ⟨rfl,rfl⟩) | (go_at_call 219;refine (hd1.out _).mono ?_;rintro e w' ⟨rfl,rfl⟩) | (go_at_call 217;refine (hr.out _).mono ?_;rintro e w' ⟨rfl,rfl⟩) | (go_at_call 220;refine hc.out.mono ?_))
  rintro e w1 ⟨rfl,hb⟩
  have s1:=hb.size
  simp only [World.size_alloc] at s1
  obtain ⟨k0,k1,k2,k3,f0,f1,f2,f3⟩:=(TokAt.new w 0 ⟨#[]⟩ 0 0 151).below hb (by simp)
  have hB:=below_box hb
  clear hb
  go_wp2
  exact bodyPost_ret (v:=.tuple #[tokV k t v 0,.int .i64 er]) (by simp [results,Tryz.results175,go_sem,k0,k1,k2,k3]) rfl ⟨rfl,set4 hB (Nat.le_refl _) _ _ _ _⟩
set_option maxRecDepth 100000 in
theorem first_mark (s:ByteArray) (h0:0<s.size) (hl:letterB (s[0]).toNat=false) (hd:digitB (s[0]).toNat=false) (k:Int) (t:ByteArray) (v er:Int)
    (hcall:∀ W,Calls Tryz.prog 221 #[.string s] W (TokRes W k t v er)) (w:World):Calls Tryz.prog 175 #[.string s] w (TokRes w k t v er):=by
  have hl1:=Lib.hid (fun W=>hl ▸ isLetter_any (s[0]).toNat W)
  have hd1:=Lib.hid (fun W=>hd ▸ isDigit_any (s[0]).toNat W)
  have hc:=Lib.hid (hcall)
  clear hl hd hcall
  go_enter Tryz.func175,Tryz.ntmps175
  go_wp2_with (first | (go_at_call 215;refine (hl1.out _).mono ?_;rintro e w' ⟨rfl,rfl⟩) | (go_at_call 219;refine (hd1.out _).mono ?_;rintro e w' ⟨rfl,rfl⟩) | (go_at_call 221;refine (hc.out _).mono ?_))
  rintro e w1 ⟨rfl,hb⟩
  have s1:=hb.size
  simp only [World.size_alloc] at s1
  obtain ⟨k0,k1,k2,k3,f0,f1,f2,f3⟩:=(TokAt.new w 0 ⟨#[]⟩ 0 0 151).below hb (by simp)
  have hB:=below_box hb
  clear hb
  go_wp2
  exact bodyPost_ret (v:=.tuple #[tokV k t v 0,.int .i64 er]) (by simp [results,Tryz.results175,go_sem,k0,k1,k2,k3]) rfl ⟨rfl,set4 hB (Nat.le_refl _) _ _ _ _⟩
theorem bl_take (s:ByteArray) (n:Nat):bl (s.extract 0 n)=(bl s).take n:=by rw [bl_extract,List.drop_zero]
theorem size_take (s:ByteArray) (n:Nat) (h:n≤s.size):(s.extract 0 n).size=n:=by rw [← bl_length,bl_take,List.length_take,bl_length];omega
theorem wordL_letter {c:Nat} {r:List Nat} (h:letterB c=true):wordL (c :: r)=(((c :: r).takeWhile nameB).length,if (c :: r).take ((c :: r).takeWhile nameB).length ∈ keysL then 2 else 1):=by rw [wordL,if_pos h]
theorem wordL_digit {c:Nat} {r:List Nat} (hl:letterB c=false) (h:digitB c=true):wordL (c :: r)=(((c :: r).takeWhile digitB).length,3):=by rw [wordL,if_neg (by rw [hl];simp),if_pos h]
theorem wordL_mark {c:Nat} {r:List Nat} (hl:letterB c=false) (h:digitB c=false):wordL (c :: r)=if (c :: r).take 2 ∈ mark2 then (2,4) else if c ∈ mark1 then (1,4) else (0,0):=by rw [wordL,if_neg (by rw [hl];simp),if_neg (by rw [h];simp)]
theorem take2_mark {l:List Nat} (h:2≤l.length):l.take 2 ∈ marksL ↔ l.take 2 ∈ mark2:=by
  match l,h with
  | a :: b :: r,_ =>
    simp only [marksL,List.mem_append,List.take_succ_cons,List.take_zero]
    constructor
    · rintro (h | h)
      · simp [mark1] at h
      · exact h
    · exact .inr
theorem take1_mark (c:Nat):[c] ∈ marksL ↔ c ∈ mark1:=by
  simp [marksL,mark1,mark2]
theorem not_mark2 {l:List Nat} (h:l.length<2):l.take 2 ∉ mark2:=by
  intro hm
  have:(l.take 2).length=2:=(show ∀ m ∈ mark2,m.length=2 by decide) _ hm
  rw [List.length_take] at this
  omega
theorem first_ok (s:ByteArray) (h0:0<s.size) (hs:s.size≤281474976710656) (h:errL (bl s)=0) (w:World) (hE:Env w) :
    Calls Tryz.prog 175 #[.string s] w (TokRes w ((wordL (bl s)).2:Nat) (s.extract 0 (wordL (bl s)).1) ((valL (bl s):Nat):Int) 0):=by
  have hg:=bl_get s 0 h0
  have hle:=wordL_le (bl s)
  rw [bl_length] at hle
  have hbt:=bl_take s (wordL (bl s)).1
  have hst:=size_take s (wordL (bl s)).1 hle
  have h1:=bl_take s 1
  have h2:=bl_take s 2
  have hlen:=bl_length s
  obtain ⟨c,hc⟩:∃ c,(s[0]).toNat=c:=⟨_,rfl⟩
  rw [hc] at hg
  obtain ⟨r,hr⟩:∃ r,bl s=c :: r:=by
    cases hb:bl s with
    | nil=>rw [hb] at hg;simp at hg
    | cons d r=>rw [hb] at hg;simp at hg;exact ⟨r,by rw [hg]⟩
  have hw0:(wordL (bl s)).1 ≠ 0:=by
    intro e;rw [errL,if_pos e] at h;exact absurd h (by decide)
  rw [errL,if_neg hw0] at h
  have hn1:¬ ((wordL (bl s)).2=1∧32<(wordL (bl s)).1):=by
    intro e;rw [if_pos e] at h;exact absurd h (by decide)
  rw [if_neg hn1] at h
  have hn2:¬ ((wordL (bl s)).2=3∧most<valD ((bl s).take (wordL (bl s)).1)):=by
    intro e;rw [if_pos e] at h;exact absurd h (by decide)
  clear h
  by_cases hl:letterB c=true
  · have hw:wordL (bl s)=(((bl s).takeWhile nameB).length,if (bl s).take ((bl s).takeWhile nameB).length ∈ keysL then 2 else 1):=by rw [hr];exact wordL_letter hl
    have hn:((bl s).takeWhile nameB).length=(wordL (bl s)).1:=by rw [hw]
    refine first_letter s h0 (by omega) (by rw [hc];exact hl) _ _ _ _ (wordL (bl s)).1 hn (fun W _=>?_) w hE
    by_cases hk:(bl s).take ((bl s).takeWhile nameB).length ∈ keysL
    · have e2:(wordL (bl s)).2=2:=by rw [hw];exact if_pos hk
      have hv:valL (bl s)=0:=by rw [valL,e2];rfl
      rw [e2,hv]
      exact name_key _ (by rw [hbt,← hn];exact hk) W
    · have e2:(wordL (bl s)).2=1:=by rw [hw];exact if_neg hk
      have hv:valL (bl s)=0:=by rw [valL,e2];rfl
      rw [e2,hv]
      exact name_ok _ (by rw [hbt,← hn];exact hk) (by rw [hst];rw [e2] at hn1;omega) W
  · have hl:letterB c=false:=by simpa using hl
    by_cases hd:digitB c=true
    · have hw:wordL (bl s)=(((bl s).takeWhile digitB).length,3):=by rw [hr];exact wordL_digit hl hd
      have hn:((bl s).takeWhile digitB).length=(wordL (bl s)).1:=by rw [hw]
      have e2:(wordL (bl s)).2=3:=by rw [hw]
      have hv:valL (bl s)=valD (bl (s.extract 0 (wordL (bl s)).1)):=by rw [valL,e2,hbt];rfl
      refine first_digit s h0 (by omega) (by rw [hc];exact hl) (by rw [hc];exact hd) _ _ _ _ (wordL (bl s)).1 hn (fun W _=>?_) w hE
      rw [e2,hv]
      refine number_ok _ (by rw [hst];omega) (fun x hx=>?_) (by rw [hst];omega) ?_ W
      · rw [hbt,← hn,takeWhile_is_take] at hx
        exact mem_takeWhile _ x hx
      · rw [hbt];rw [e2] at hn2;omega
    · have hd:digitB c=false:=by simpa using hd
      have hw:wordL (bl s)=if (bl s).take 2 ∈ mark2 then (2,4) else if c ∈ mark1 then (1,4) else (0,0):=by
        have:=wordL_mark (r:=r) hl hd
        rw [← hr] at this;exact this
      refine first_mark s h0 (by rw [hc];exact hl) (by rw [hc];exact hd) _ _ _ _ (fun W=>?_) w
      have ht1:(bl s).take 1=[c]:=by rw [hr];rfl
      by_cases hm2:(bl s).take 2 ∈ mark2
      · have hsz:2≤s.size:=by
          rw [← hlen]
          rcases Nat.lt_or_ge (bl s).length 2 with hh | hh
          · exact absurd hm2 (not_mark2 hh)
          · exact hh
        rw [if_pos hm2] at hw
        have hv:valL (bl s)=0:=by rw [valL,hw];rfl
        rw [hv,hw]
        exact mark_two s hsz (by omega) (by rw [h2];exact (take2_mark (by rw [hlen];exact hsz)).2 hm2) W
      · rw [if_neg hm2] at hw
        by_cases hm1:c ∈ mark1
        · rw [if_pos hm1] at hw
          have hv:valL (bl s)=0:=by rw [valL,hw];rfl
          rw [hv,hw]
          exact mark_one s h0 (by omega) (by rw [h1,ht1];exact (take1_mark c).2 hm1) (fun hsz=>by rw [h2];exact fun hh=>hm2 ((take2_mark (by rw [hlen];exact hsz)).1 hh)) W
        · rw [if_neg hm1] at hw
          exact absurd (by rw [hw]) hw0
theorem first_bad (s:ByteArray) (h0:0<s.size) (hs:s.size≤281474976710656) (h:errL (bl s) ≠ 0) (w:World) (hE:Env w) :
    Calls Tryz.prog 175 #[.string s] w (TokRes w 0 ⟨#[]⟩ 0 ((errL (bl s):Nat):Int)):=by
  have hg:=bl_get s 0 h0
  have hle:=wordL_le (bl s)
  rw [bl_length] at hle
  have hbt:=bl_take s (wordL (bl s)).1
  have hst:=size_take s (wordL (bl s)).1 hle
  have h1:=bl_take s 1
  have h2:=bl_take s 2
  have hlen:=bl_length s
  obtain ⟨c,hc⟩:∃ c,(s[0]).toNat=c:=⟨_,rfl⟩
  rw [hc] at hg
  obtain ⟨r,hr⟩:∃ r,bl s=c :: r:=by
    cases hb:bl s with
    | nil=>rw [hb] at hg;simp at hg
    | cons d r=>rw [hb] at hg;simp at hg;exact ⟨r,by rw [hg]⟩
  by_cases hl:letterB c=true
  · have hw:wordL (bl s)=(((bl s).takeWhile nameB).length,if (bl s).take ((bl s).takeWhile nameB).length ∈ keysL then 2 else 1):=by rw [hr];exact wordL_letter hl
    have hn:((bl s).takeWhile nameB).length=(wordL (bl s)).1:=by rw [hw]
    have hnm:nameB c=true:=by unfold nameB;rw [hl];rfl
    have hn0:(wordL (bl s)).1 ≠ 0:=by rw [← hn,hr,List.takeWhile_cons,if_pos hnm];simp
    refine first_letter s h0 (by omega) (by rw [hc];exact hl) _ _ _ _ (wordL (bl s)).1 hn (fun W _=>?_) w hE
    by_cases hk:(bl s).take ((bl s).takeWhile nameB).length ∈ keysL
    · have e2:(wordL (bl s)).2=2:=by rw [hw];exact if_pos hk
      exact absurd (by rw [errL,if_neg hn0,e2];simp) h
    · have e2:(wordL (bl s)).2=1:=by rw [hw];exact if_neg hk
      by_cases h32:32<(wordL (bl s)).1
      · have he:errL (bl s)=3:=by rw [errL,if_neg hn0,if_pos ⟨e2,h32⟩]
        rw [he]
        exact name_long _ (by rw [hbt,← hn];exact hk) (by rw [hst];exact h32) W
      · exact absurd (by rw [errL,if_neg hn0,e2,if_neg (by omega),if_neg (by simp)]) h
  · have hl:letterB c=false:=by simpa using hl
    by_cases hd:digitB c=true
    · have hw:wordL (bl s)=(((bl s).takeWhile digitB).length,3):=by rw [hr];exact wordL_digit hl hd
      have hn:((bl s).takeWhile digitB).length=(wordL (bl s)).1:=by rw [hw]
      have e2:(wordL (bl s)).2=3:=by rw [hw]
      have hn0:(wordL (bl s)).1 ≠ 0:=by rw [← hn,hr,List.takeWhile_cons,if_pos hd];simp
      refine first_digit s h0 (by omega) (by rw [hc];exact hl) (by rw [hc];exact hd) _ _ _ _ (wordL (bl s)).1 hn (fun W hEW=>?_) w hE
      by_cases hm:most<valD ((bl s).take (wordL (bl s)).1)
      · have he:errL (bl s)=3:=by rw [errL,if_neg hn0,if_neg (by rw [e2];omega),if_pos ⟨e2,hm⟩]
        rw [he]
        refine number_big _ (by rw [hst];omega) (fun x hx=>?_) (by rw [hst];omega) (by rw [hbt];exact hm) W hEW
        rw [hbt,← hn,takeWhile_is_take] at hx
        exact mem_takeWhile _ x hx
      · exact absurd (by rw [errL,if_neg hn0,if_neg (by rw [e2];omega),if_neg (fun x=>hm x.2)]) h
    · have hd:digitB c=false:=by simpa using hd
      have hw:wordL (bl s)=if (bl s).take 2 ∈ mark2 then (2,4) else if c ∈ mark1 then (1,4) else (0,0):=by
        have:=wordL_mark (r:=r) hl hd
        rw [← hr] at this;exact this
      refine first_mark s h0 (by rw [hc];exact hl) (by rw [hc];exact hd) _ _ _ _ (fun W=>?_) w
      have ht1:(bl s).take 1=[c]:=by rw [hr];rfl
      by_cases hm2:(bl s).take 2 ∈ mark2
      · rw [if_pos hm2] at hw
        exact absurd (by rw [errL,hw];simp) h
      · rw [if_neg hm2] at hw
        by_cases hm1:c ∈ mark1
        · rw [if_pos hm1] at hw
          exact absurd (by rw [errL,hw];simp) h
        · rw [if_neg hm1] at hw
          have he:errL (bl s)=40:=by rw [errL,hw,if_pos rfl]
          rw [he]
          exact mark_no s h0 (by omega) (by rw [h1,ht1];exact fun hh=>hm1 ((take1_mark c).1 hh)) (fun hsz=>by rw [h2];exact fun hh=>hm2 ((take2_mark (by rw [hlen];exact hsz)).1 hh)) W
end Go.Proofs.YtpcniebkabkikaaGreatDoor
