/- Plain facts: a text's words, gap by gap and word by word; what a sequence of them tells. Plain: a text's words set apart anew, by whatever blanks, line ends and comments, are the same words (kind, text, number). Plain: words laid one behind the other, with blanks between or none where the next byte goes on no word, are these words. Plain: whatever is read as an expression is a tree, with no more b -/
import Derived.Test.YtpcniebkabkikaaGreatDoorVSR1
import Derived.Test.YtpcniebkabkikaaGreatDoorProg
import Derived.WalkKit
import Derived.Outline
import Derived.Lib.Hide
import Derived.LoopTactic
import Derived.Lib.Strings
import Derived.Lib.ParseIntBCases
namespace Go.Proofs.YtpcniebkabkikaaGreatDoor
open Go
def errL (l:List Nat):Nat :=
  if (wordL l).1=0 then 40 else if (wordL l).2=1∧32<(wordL l).1 then 3 else if (wordL l).2=3∧most<valD (l.take (wordL l).1) then 3 else 0
def valL (l:List Nat):Nat:=if (wordL l).2=3 then valD (l.take (wordL l).1) else 0
def gapL (l:List Nat):Nat:=if l.head?=some 35 then (l.takeWhile inC).length else (l.takeWhile blankB).length
theorem drop_takeWhile {p:Nat→Bool}:∀ l:List Nat,l.drop (l.takeWhile p).length=l.dropWhile p
  | []=>rfl
  | c :: r=>by
    rw [List.takeWhile_cons,List.dropWhile_cons]
    split
    · rw [List.length_cons,List.drop_succ_cons,drop_takeWhile r]
    · rfl
theorem scan_blanks:∀ (l:List Nat) (a:Nat),scanL l a=scanL (l.dropWhile blankB) (a+(l.takeWhile blankB).length)
  | [],a=>by simp
  | c :: r,a=>by
    by_cases h:blankB c=true
    · rw [scanL_blank r a h,scan_blanks r (a+1),List.dropWhile_cons,if_pos h,List.takeWhile_cons,if_pos h,List.length_cons]
      congr 1;omega
    · rw [List.dropWhile_cons,if_neg h,List.takeWhile_cons,if_neg h];rfl
theorem scan_comment (r:List Nat) (a:Nat):scanL (35 :: r) a=scanL ((35 :: r).dropWhile inC) (a+((35 :: r).takeWhile inC).length):=by
  rw [scanL,if_neg (by decide),dif_pos rfl]
theorem scan_gap (l:List Nat) (a:Nat):scanL l a=scanL (l.drop (gapL l)) (a+gapL l):=by
  unfold gapL
  split
  · rename_i h
    cases l with
    | nil=>simp at h
    | cons c r =>
      obtain rfl:c=35:=by simpa using h
      rw [drop_takeWhile]
      exact scan_comment r a
  · rw [drop_takeWhile]
    exact scan_blanks l a
theorem no_gap {c:Nat} {r:List Nat} (h:gapL (c :: r)=0):blankB c=false∧c ≠ 35:=by
  unfold gapL at h
  split at h
  · rename_i h35
    obtain rfl:c=35:=by simpa using h35
    rw [List.takeWhile_cons,if_pos (by decide)] at h
    simp at h
  · rename_i h35
    refine ⟨?_,by simpa using h35⟩
    rw [List.takeWhile_cons] at h
    split at h
    · simp at h
    · rename_i hb;simpa using hb
theorem scan_err {c:Nat} {r:List Nat} (a:Nat) (h:blankB c=false) (h35:c ≠ 35) (he:errL (c :: r) ≠ 0):scanL (c :: r) a=([],a,errL (c :: r)):=by
  unfold errL at he ⊢
  rw [scanL,if_neg (by rw [h];simp),dif_neg h35]
  split
  · rfl
  · rename_i h0
    rw [if_neg h0] at he
    split
    · rfl
    · rename_i h1
      rw [if_neg h1] at he
      split
      · rfl
      · rename_i h2;rw [if_neg h2] at he;exact absurd rfl he
theorem scan_word {c:Nat} {r:List Nat} (a:Nat) (h:blankB c=false) (h35:c ≠ 35) (he:errL (c :: r)=0) :
    scanL (c :: r) a=(⟨(wordL (c :: r)).2,(c :: r).take (wordL (c :: r)).1,valL (c :: r),a⟩ :: (scanL ((c :: r).drop (wordL (c :: r)).1) (a+(wordL (c :: r)).1)).1,(scanL ((c :: r).drop (wordL (c :: r)).1) (a+(wordL (c :: r)).1)).2):=by
  unfold errL at he
  rw [scanL,if_neg (by rw [h];simp),dif_neg h35]
  split
  · rename_i h0;rw [if_pos h0] at he;exact absurd he (by decide)
  · rename_i h0
    rw [if_neg h0] at he
    split
    · rename_i h1;rw [if_pos h1] at he;exact absurd he (by decide)
    · rename_i h1
      rw [if_neg h1] at he
      split
      · rename_i h2;rw [if_pos h2] at he;exact absurd he (by decide)
      · rfl
theorem errL_word {l:List Nat} (he:errL l=0):(wordL l).1 ≠ 0:=by
  intro h
  rw [errL,if_pos h] at he
  exact absurd he (by decide)
def itemsOf (r:List Tok × Nat × Nat):List (Tok × Nat):=r.1.map (fun t=>(t,0))++if r.2.2=0 then [] else [(⟨0,[],0,r.2.1⟩,r.2.2)]
theorem items_word {c:Nat} {r:List Nat} (a:Nat) (h:blankB c=false) (h35:c ≠ 35) (he:errL (c :: r)=0) :
    itemsOf (scanL (c :: r) a)=(⟨(wordL (c :: r)).2,(c :: r).take (wordL (c :: r)).1,valL (c :: r),a⟩,0) :: itemsOf (scanL ((c :: r).drop (wordL (c :: r)).1) (a+(wordL (c :: r)).1)):=by
  rw [scan_word a h h35 he];rfl
theorem items_err {c:Nat} {r:List Nat} (a:Nat) (h:blankB c=false) (h35:c ≠ 35) (he:errL (c :: r) ≠ 0) :
    itemsOf (scanL (c :: r) a)=[(⟨0,[],0,a⟩,errL (c :: r))]:=by
  rw [scan_err a h h35 he,itemsOf];simp [he]
theorem items_nil (a:Nat):itemsOf (scanL [] a)=[]:=by rw [scanL];rfl
theorem items_gap (l:List Nat) (a:Nat):itemsOf (scanL l a)=itemsOf (scanL (l.drop (gapL l)) (a+gapL l)):=by rw [← scan_gap]
theorem scan_count:∀ (N:Nat) (l:List Nat),l.length≤N→∀ a,(scanL l a).1.length≤l.length
  | N,l,h,a=>by
    cases l with
    | nil=>rw [scanL];exact Nat.le_refl _
    | cons c r =>
      by_cases hb:blankB c=true
      · cases N with
        | zero=>simp at h
        | succ N =>
          rw [scanL_blank r a hb]
          have:=scan_count N r (by simpa using h) (a+1)
          rw [List.length_cons];omega
      · have hb:blankB c=false:=by simpa using hb
        by_cases h35:c=35
        · cases N with
          | zero=>simp at h
          | succ N =>
            subst h35
            rw [scan_comment]
            have hl:=dropWhile_lt r
            have:=scan_count N ((35 :: r).dropWhile inC) (by rw [List.length_cons] at h hl;omega) (a+((35 :: r).takeWhile inC).length)
            omega
        · by_cases he:errL (c :: r)=0
          · cases N with
            | zero=>simp at h
            | succ N =>
              rw [scan_word a hb h35 he]
              have hl:=drop_lt c r _ (errL_word he)
              have:=scan_count N ((c :: r).drop (wordL (c :: r)).1) (by rw [List.length_cons] at h hl;omega) (a+(wordL (c :: r)).1)
              show _+1≤_
              omega
          · rw [scan_err a hb h35 he];simp
end Go.Proofs.YtpcniebkabkikaaGreatDoor
namespace Go.Proofs.YtpcniebkabkikaaGreatDoor
open Go
theorem blank_word {x:Nat} (h:blankB x=true):nameB x=false∧digitB x=false∧x ∉ mark1∧∀ m ∈ mark2,x ∉ m:=by
  have:x=9 ∨ x=10 ∨ x=13 ∨ x=32:=by simpa [blankB,or_assoc] using h
  rcases this with rfl | rfl | rfl | rfl <;> decide
def apart:List (List Nat × Tok)→List Nat
  | []=>[]
  | p :: l=>p.1++p.2.text++apart l
end Go.Proofs.YtpcniebkabkikaaGreatDoor
namespace Go.Proofs.YtpcniebkabkikaaGreatDoor
open Go
open Go.Proofs.Syn (K)
def Sep (t r:List Nat):Prop:=∀ c x,t.head?=some c→r.head?=some x→(letterB c=true→nameB x=false)∧(digitB c=true→digitB x=false)∧(t=[c]→[c,x] ∉ mark2)
theorem wordL_sep {t r:List Nat} {k:Nat} (hw:wordL t=(t.length,k)) (hs:t ≠ []) (h:Sep t r):wordL (t++r)=(t.length,k):=by
  cases t with
  | nil=>exact absurd rfl hs
  | cons c t =>
    by_cases hl:letterB c=true
    · rw [wordL,if_pos hl] at hw
      simp only at hw
      injection hw with h1 h2
      have hall:(c :: t).takeWhile nameB=c :: t:=by
        have:=takeWhile_is_take (p:=nameB) (c :: t)
        rw [h1,List.take_length] at this
        exact this.symm
      rw [hall,List.take_length] at h2
      have hst:((c :: t)++r).takeWhile nameB=c :: t:=takeWhile_stop _ _ (fun x hx=>mem_takeWhile (c :: t) x (by rw [hall];exact hx)) (fun x hx=>(h c x rfl hx).1 hl)
      rw [List.cons_append] at hst ⊢
      rw [wordL,if_pos hl]
      simp only
      rw [hst,← List.cons_append,List.take_left,h2]
    · by_cases hd:digitB c=true
      · rw [wordL,if_neg hl,if_pos hd] at hw
        injection hw with h1 h2
        have hall:(c :: t).takeWhile digitB=c :: t:=by
          have:=takeWhile_is_take (p:=digitB) (c :: t)
          rw [h1,List.take_length] at this
          exact this.symm
        have hst:((c :: t)++r).takeWhile digitB=c :: t:=takeWhile_stop _ _ (fun x hx=>mem_takeWhile (c :: t) x (by rw [hall];exact hx)) (fun x hx=>(h c x rfl hx).2.1 hd)
        rw [List.cons_append] at hst ⊢
        rw [wordL,if_neg hl,if_pos hd,hst,h2]
      · rw [wordL,if_neg hl,if_neg hd] at hw
        split at hw
        · rename_i h2
          injection hw with h3 h4
          obtain ⟨d,rfl⟩:∃ d,t=[d]:=by
            cases t with
            | nil=>simp at h3
            | cons d t =>
              cases t with
              | nil=>exact ⟨d,rfl⟩
              | cons e t=>simp at h3
          show wordL (c :: d :: r)=_
          rw [wordL,if_neg hl,if_neg hd,if_pos (by exact h2),← h4]
          rfl
        · rename_i h2
          split at hw
          · rename_i h1
            injection hw with h3 h4
            obtain rfl:t=[]:=by
              cases t with
              | nil=>rfl
              | cons d t=>simp at h3
            show wordL (c :: r)=_
            have h5:(c :: r).take 2 ∉ mark2:=by
              cases r with
              | nil=>exact h2
              | cons x r=>exact (h c x rfl rfl).2.2 rfl
            rw [wordL,if_neg hl,if_neg hd,if_neg h5,if_pos h1,← h4]
            rfl
          · injection hw with h3 h4
            simp at h3
theorem scanL_sep {k v:Nat} {t r:List Nat} (h:Good k t v) (hr:Sep t r) (a:Nat) :
    scanL (t++r) a=(⟨k,t,v,a⟩ :: (scanL r (a+t.length)).1,(scanL r (a+t.length)).2):=by
  obtain ⟨hw,hs,hh,hn,hu,hv⟩:=h
  have hag:wordL (t++r)=(t.length,k):=wordL_sep hw hs hr
  cases t with
  | nil=>exact absurd rfl hs
  | cons c t =>
    obtain ⟨h1,h2⟩:=hh c rfl
    have htk:((c :: t)++r).take (c :: t).length=c :: t:=List.take_left
    have hdr:((c :: t)++r).drop (c :: t).length=r:=List.drop_left
    rw [List.cons_append] at hag htk hdr ⊢
    rw [scanL,if_neg (by rw [h1];simp),dif_neg h2,hag,dif_neg (by simp),if_neg hn]
    simp only
    rw [htk,hdr,if_neg hu,hv]
theorem scanL_blanks:∀ (g r:List Nat) (a:Nat),(∀ b ∈ g,blankB b=true)→scanL (g++r) a=scanL r (a+g.length)
  | [],_,_,_=>rfl
  | b :: g,r,a,h=>by
    rw [List.cons_append,scanL_blank _ _ (h b (List.mem_cons_self ..)),scanL_blanks g r (a+1) (fun x hx=>h x (List.mem_cons_of_mem _ hx)),List.length_cons]
    congr 1;omega
theorem sep_nil (t:List Nat):Sep t []:=fun _ _ _ h=>by cases h
theorem sep_blank (t:List Nat) {b:Nat} (hb:blankB b=true) (r:List Nat):Sep t (b :: r):=fun c x _ hx=>by
  obtain rfl:b=x:=by simpa using hx
  obtain ⟨h1,h2,_,h4⟩:=blank_word hb
  exact ⟨fun _=>h1,fun _=>h2,fun _ hm=>h4 _ hm (by simp)⟩
theorem sep_mark {c:Nat} (hl:letterB c=false) (hd:digitB c=false) (hm:∀ m ∈ mark2,m.head? ≠ some c) (r:List Nat):Sep [c] r:=fun c' x hc _=>by
  obtain rfl:c=c':=by simpa using hc
  exact ⟨fun h=>(by rw [hl] at h;cases h),fun h=>(by rw [hd] at h;cases h),fun _ h=>hm _ h rfl⟩
theorem sep_soft (t:List Nat) {x:Nat} (hn:nameB x=false) (hm:∀ m ∈ mark2,m[1]? ≠ some x) (r:List Nat):Sep t (x :: r):=fun c y _ hy=>by
  obtain rfl:x=y:=by simpa using hy
  have hd:digitB x=false:=by
    unfold nameB at hn
    exact (Bool.or_eq_false_iff.1 hn).2
  exact ⟨fun _=>hn,fun _=>hd,fun _ h=>hm _ h rfl⟩
def lay:List (List Nat × K)→List Nat
  | []=>[]
  | p :: l=>p.1++(p.2.text++lay l)
theorem lay_app:∀ (a b:List (List Nat × K)),lay (a++b)=lay a++lay b
  | [],b=>rfl
  | p :: a,b=>by
    show p.1++(p.2.text++lay (a++b))=p.1++(p.2.text++lay a)++lay b
    rw [lay_app a b];simp
def Lays:List (List Nat × K)→List Nat→Prop
  | [],_=>True
  | p :: l,r=>(∀ b ∈ p.1,blankB b=true)∧Good p.2.kind p.2.text p.2.value∧Sep p.2.text (lay l++r)∧Lays l r
theorem lays_app:∀ (a b:List (List Nat × K)) (r:List Nat),Lays (a++b) r ↔ Lays a (lay b++r)∧Lays b r
  | [],b,r=>⟨fun h=>⟨trivial,h⟩,fun h=>h.2⟩
  | p :: a,b,r=>by
    show _∧_∧Sep p.2.text (lay (a++b)++r)∧Lays (a++b) r ↔ (_∧_∧Sep p.2.text (lay a++(lay b++r))∧Lays a (lay b++r))∧Lays b r
    rw [lay_app,List.append_assoc,lays_app a b r]
    exact ⟨fun ⟨h1,h2,h3,h4,h5⟩=>⟨⟨h1,h2,h3,h4⟩,h5⟩,fun ⟨⟨h1,h2,h3,h4⟩,h5⟩=>⟨h1,h2,h3,h4,h5⟩⟩
theorem scan_lay:∀ (l:List (List Nat × K)) (r:List Nat) (a:Nat),Lays l r→(∀ b ∈ r,blankB b=true) →
    (scanL (lay l++r) a).2.2=0∧(scanL (lay l++r) a).1.map (fun t=>(⟨t.kind,t.text,t.value⟩:K))=l.map Prod.snd
  | [],r,a,_,hr=>by
    have h:=scanL_blanks r [] a hr
    rw [List.append_nil] at h
    rw [show lay []++r=r from rfl,h,scanL]
    exact ⟨rfl,rfl⟩
  | p :: l,r,a,⟨h1,h2,h3,h4⟩,hr=>by
    have e:lay (p :: l)++r=p.1++(p.2.text++(lay l++r)):=by rw [lay];simp
    have ih:=scan_lay l r (a+p.1.length+p.2.text.length) h4 hr
    rw [e,scanL_blanks _ _ _ h1,scanL_sep h2 h3]
    exact ⟨ih.1,by rw [List.map_cons,List.map_cons,ih.2]⟩
end Go.Proofs.YtpcniebkabkikaaGreatDoor
namespace Go.Proofs.Syn
def Ex.All (P:List Nat→Prop) (Q:Nat→Prop):Ex→Prop
  | .num v=>Q v
  | .nm s=>P s
  | .idx s e=>P s∧e.All P Q
  | .un _ e=>e.All P Q
  | .bin _ l r=>l.All P Q∧r.All P Q
theorem Ex.dp_mono:∀ (e:Ex) {a b:Nat},a≤b→e.dp a≤e.dp b
  | .num _,_,_,_=>Nat.le_refl _
  | .nm _,_,_,_=>Nat.le_refl _
  | .idx _ _,_,_,_=>Nat.le_refl _
  | .un _ _,_,_,_=>Nat.le_refl _
  | .bin o l r,a,b,h=>by
    rw [Ex.dp,Ex.dp]
    by_cases h1:opLv o<a
    · rw [if_pos h1,if_pos (by omega)];exact Nat.le_refl _
    · rw [if_neg h1];omega
theorem Ex.dp_six:∀ (e:Ex),e.dp 6≤e.dp 0+1
  | .num _=>by rw [Ex.dp,Ex.dp];omega
  | .nm _=>by rw [Ex.dp,Ex.dp];omega
  | .idx _ _=>by rw [Ex.dp,Ex.dp];omega
  | .un _ _=>by rw [Ex.dp,Ex.dp];omega
  | .bin o l r=>by
    rw [Ex.dp,Ex.dp]
    split <;> split <;> omega
theorem marks_lv:∀ (k:Fin 6),∀ m ∈ marks k.val,opLv m.2=k.val∧1≤m.2∧m.2≤14:=by decide
section
variable {T:Nat→Option K} {F:Nat} {P:List Nat→Prop} {Q:Nat→Prop}
def TrA (P:List Nat→Prop) (Q:Nat→Prop) (p:Nat→R (List Tm)) (lv d:Nat):Prop:=∀ i l j,p i=.ok (l,j)→∃ e:Ex,e.Wf∧l=e.flat∧e.dp lv≤d∧e.All P Q
theorem loop_tree {p:Nat→R (List Tm)} {lv d:Nat} (hlv:lv≤5) (hp:TrA P Q p (lv+1) d):∀ (f:Nat) (e:Ex) (i:Nat) (l:List Tm) (j:Nat),e.Wf→e.dp lv≤d→e.All P Q→loopF T p (marks lv) f e.flat i=.ok (l,j)→∃ e:Ex,e.Wf∧l=e.flat∧e.dp lv≤d∧e.All P Q
  | 0,_,_,_,_,_,_,_,h=>by cases h
  | f+1,e,i,l,j,hw,hd,ha,h=>by
    rw [loopF] at h
    split at h
    · injection h with h;injection h with h _
      exact ⟨e,hw,h.symm,hd,ha⟩
    · rename_i ho
      obtain ⟨r,i2,h1,h2⟩:=R.on_ok h
      obtain ⟨e2,hw2,rfl,hd2,ha2⟩:=hp _ _ _ h1
      obtain ⟨m,hm,he⟩:=opOf_mem ho
      have hb:=marks_lv ⟨lv,by omega⟩ m hm
      rw [he] at hb
      obtain ⟨b1,b2,b3⟩:=hb
      have b1:opLv (opOf T (marks lv) i)=lv:=b1
      refine loop_tree hlv hp f (.bin (opOf T (marks lv) i) e e2) i2 l j ⟨b2,b3,hw,hw2⟩ ?_ ⟨ha,ha2⟩ h2
      rw [Ex.dp,b1,if_neg (by omega)];omega
theorem tower_tree {u:Nat→R (List Tm)} {d:Nat} (hu:TrA P Q u 6 d):∀ k,k≤6→TrA P Q (tower T F u k) (6 - k) d
  | 0,_=>hu
  | k+1,hk=>by
    intro i l j h
    rw [tower] at h
    obtain ⟨l1,i1,h1,h2⟩:=R.on_ok h
    obtain ⟨e,hw,rfl,hd,ha⟩:=tower_tree hu k (by omega) _ _ _ h1
    rw [show 6 - (k+1)=5 - k by omega]
    refine loop_tree (by omega) ?_ _ e _ _ _ hw (Nat.le_trans (e.dp_mono (by omega)) hd) ha h2
    rw [show 5 - k+1=6 - k by omega]
    exact tower_tree hu k (by omega)
theorem uns_tree {d:Nat}:∀ (ops:List Nat) (e:Ex),(∀ o ∈ ops,15≤o∧o≤17)→e.Wf→e.dp 6≤d→e.All P Q→∃ e':Ex,e'.Wf∧e.flat++ops.map (fun o=>(⟨4,o,[]⟩:Tm))=e'.flat∧e'.dp 6≤d∧e'.All P Q
  | [],e,_,hw,hd,ha=>⟨e,hw,by simp,hd,ha⟩
  | o :: ops,e,ho,hw,hd,ha=>by
    have h1:=ho o (List.mem_cons_self ..)
    obtain ⟨e',k1,k2,k3,k4⟩:=uns_tree ops (.un o e) (fun x hx=>ho x (List.mem_cons_of_mem _ hx)) ⟨h1.1,h1.2,hw⟩ hd ha
    refine ⟨e',k1,?_,k3,k4⟩
    rw [← k2,Ex.flat];simp
theorem brack_tree {d:Nat} {g:List Tm→List Tm} {c:List Nat} {i j:Nat} {l:List Tm} (hs:∀ p,sub T F d=some p→TrA P Q p 0 (d - 1)) (h:brack T (sub T F d) g c i=.ok (l,j)):∃ e:Ex,e.Wf∧l=g e.flat∧e.dp 0+1≤d∧e.All P Q:=by
  cases d with
  | zero=>cases h
  | succ d =>
    unfold brack at h
    obtain ⟨l1,i1,h1,h⟩:=R.on_ok (show (exprD T F d (i+1)).on _=_ from h)
    obtain ⟨_,i2,_,h⟩:=R.on_ok h
    injection h with h;injection h with h _
    obtain ⟨e,k1,k2,k3,k4⟩:=hs _ rfl _ _ _ h1
    exact ⟨e,k1,by rw [← h,k2],by omega,k4⟩
theorem unary_tree {d:Nat} (hT:∀ i k,T i=some k→(k.kind=1→P k.text)∧(k.kind=3→Q k.value)) (hs:∀ p,sub T F d=some p→TrA P Q p 0 (d - 1)):TrA P Q (unary T F (sub T F d)) 6 d:=by
  intro i l j h
  rw [unary_atom] at h
  obtain ⟨ops,i1,h1,h⟩:=R.on_ok h
  have ho:=(unOps_good _ _ _ _ h1).1
  obtain ⟨l2,i2,h2,h⟩:=R.on_ok h
  injection h with h;injection h with h _
  have key:∃ e:Ex,e.Wf∧l2=e.flat∧e.dp 6≤d∧e.All P Q:=by
    unfold atom at h2
    split at h2
    · cases h2
    · rename_i k hk
      split at h2
      · rename_i h3
        injection h2 with h2;injection h2 with h2 _
        exact ⟨.num k.value,trivial,h2.symm,Nat.zero_le _,(hT _ _ hk).2 h3⟩
      · split at h2
        · obtain ⟨e,k1,k2,k3,k4⟩:=brack_tree hs h2
          exact ⟨e,k1,k2,by have:=e.dp_six;omega,k4⟩
        · unfold atomN at h2
          obtain ⟨s,i3,h3,h2⟩:=R.on_ok h2
          obtain ⟨_,_,k',hk',hkt,hk1⟩:=name_ok h3
          have hP:=(hT _ _ hk').1 hk1
          rw [hkt] at hP
          split at h2
          · obtain ⟨e,k1,k2,k3,k4⟩:=brack_tree hs h2
            exact ⟨.idx s e,k1,k2,k3,hP,k4⟩
          · injection h2 with h2;injection h2 with h2 _
            exact ⟨.nm s,trivial,h2.symm,Nat.zero_le _,hP⟩
  obtain ⟨e,k1,rfl,k3,k4⟩:=key
  obtain ⟨e',q1,q2,q3,q4⟩:=uns_tree ops.reverse e (fun o hx=>ho o (List.mem_reverse.1 hx)) k1 k3 k4
  exact ⟨e',q1,by rw [← h,q2],q3,q4⟩
theorem exprD_tree (hT:∀ i k,T i=some k→(k.kind=1→P k.text)∧(k.kind=3→Q k.value)):∀ d,TrA P Q (exprD T F d) 0 d
  | 0=>by
    rw [exprD_sub]
    exact tower_tree (unary_tree hT (fun p h=>by cases h)) 6 (Nat.le_refl _)
  | d+1=>by
    rw [exprD_sub]
    exact tower_tree (unary_tree hT (fun p h=>by
      injection h with h
      rw [← h];exact exprD_tree hT d)) 6 (Nat.le_refl _)
theorem expr_tree (hT:∀ i k,T i=some k→(k.kind=1→P k.text)∧(k.kind=3→Q k.value)) {i j:Nat} {l:List Tm} (h:expr T F i=.ok (l,j)):∃ e:Ex,e.Wf∧l=e.flat∧e.dp 0≤12∧e.All P Q:=exprD_tree hT 12 _ _ _ h
end
end Go.Proofs.Syn
namespace Go.Proofs.Syn
structure Sx where
  kind:Nat
  name:List Nat
  targets:List (List Nat)
  es:List Ex
def Sx.st (x:Sx):St:=⟨x.kind,x.name,x.targets,x.es.map Ex.flat⟩
def nm1 (s:List Nat):K:=⟨1,s,0⟩
section
variable (dg:Nat→List Nat)
def comma {α:Type} (f:α→List K):List α→List K
  | []=>[]
  | [x]=>f x
  | x :: y :: l=>f x++mk4 [44] :: comma f (y :: l)
def exsTk (l:List Ex):List K:=comma (fun e=>e.tk dg 0) l
def tgTk (l:List (List Nat)):List K:=comma (fun s=>[nm1 s]) l
end
section
variable {T:Nat→Option K} {F:Nat} {dg:Nat→List Nat}
theorem comma_cons {α:Type} (f:α→List K) (x:α) (l:List α):comma f (x :: l)=f x++l.flatMap fun y=>mk4 [44] :: f y:=by
  induction l generalizing x with
  | nil=>simp [comma]
  | cons y l ih=>rw [comma,ih y];simp
def HdE (k:K):Prop:=k.kind=1 ∨ k.kind=3 ∨ ∃ s,k=mk4 s∧s ∈ [[40],[45],[33],[126]]
theorem un_mem:∀ o:Fin 18,15≤o.val→unMark o.val ∈ [[40],[45],[33],[126]]:=by decide
theorem Ex.hd:∀ (e:Ex),e.Wf→∀ lv,∃ k r,e.tk dg lv=k :: r∧HdE k
  | .num v,_,_=>⟨_,_,rfl,.inr (.inl rfl)⟩
  | .nm s,_,_=>⟨_,_,rfl,.inl rfl⟩
  | .idx s e,_,_=>⟨_,_,rfl,.inl rfl⟩
  | .un o e,h,_=>⟨_,_,rfl,.inr (.inr ⟨_,rfl,un_mem ⟨o,by have:=h.2.1;omega⟩ h.1⟩)⟩
  | .bin o l r,h,lv=>by
    rw [Ex.tk];unfold br
    split
    · exact ⟨_,_,rfl,.inr (.inr ⟨_,rfl,by simp⟩)⟩
    · obtain ⟨k,t,h1,h2⟩:=Ex.hd l h.2.2.1 (opLv o)
      exact ⟨k,t++mk4 (opMark o) :: r.tk dg (opLv o+1),by rw [h1];rfl,h2⟩
end
end Go.Proofs.Syn
namespace Go.Proofs.Syn
section
variable {T:Nat→Option K} {F:Nat} {dg:Nat→List Nat} {P:List Nat→Prop} {Q:Nat→Prop}
end
end Go.Proofs.Syn
namespace Go.Proofs.Syn
section
variable {T:Nat→Option K} {F:Nat} {dg:Nat→List Nat} {P:List Nat→Prop} {Q:Nat→Prop}
def TkOk (P:List Nat→Prop) (Q:Nat→Prop) (T:Nat→Option K):Prop:=∀ i k,T i=some k→(k.kind=1→P k.text)∧(k.kind=3→Q k.value)
end
end Go.Proofs.Syn
namespace Go.Proofs.Syn
def lbIx (ns:List (List Nat)) (m:Nat):List Nat:=(List.range ns.length).filter fun i=>m.testBit i
def lbNs (ns:List (List Nat)) (m:Nat):List (List Nat):=(lbIx ns m).map fun i=>ns.getD i []
theorem mem_lbNs {ns:List (List Nat)} {m:Nat} {s:List Nat}:s ∈ lbNs ns m ↔ ∃ i,∃ h:i<ns.length,m.testBit i=true∧ns[i]=s:=by
  unfold lbNs lbIx
  rw [List.mem_map]
  constructor
  · rintro ⟨i,h1,h2⟩
    obtain ⟨h3,h4⟩:=List.mem_filter.1 h1
    have h5:=List.mem_range.1 h3
    exact ⟨i,h5,h4,by rw [← h2,List.getD_eq_getElem?_getD,List.getElem?_eq_getElem h5];rfl⟩
  · rintro ⟨i,h1,h2,h3⟩
    exact ⟨i,List.mem_filter.2 ⟨List.mem_range.2 h1,h2⟩,by rw [← h3,List.getD_eq_getElem?_getD,List.getElem?_eq_getElem h1];rfl⟩
def lbTk (ns:List (List Nat)) (m:Nat):List K:=mk4 [123] :: ((lbNs ns m).map nm1++[mk4 [125]])
section
variable {T:Nat→Option K} {F:Nat} {dg:Nat→List Nat} {P:List Nat→Prop} {Q:Nat→Prop} {ns:List (List Nat)}
end
end Go.Proofs.Syn
namespace Go.Proofs.Syn
structure Fx where
  name:List Nat
  level:Nat
  params:List De
  results:List Nat
  vars:List De
  body:List (List Sx)
  es:List Ex
def Fx.fn (x:Fx):Fn:=⟨x.name,x.level,x.params,x.results,x.vars,x.body.flatten.map Sx.st++[⟨9,[],[],x.es.map Ex.flat⟩]⟩
section
variable {T:Nat→Option K} {F:Nat} {dg:Nat→List Nat} {P:List Nat→Prop} {Q:Nat→Prop} {ns:List (List Nat)}
end
end Go.Proofs.Syn
namespace Go.Proofs.Syn
section
variable {T:Nat→Option K} {F:Nat} {dg:Nat→List Nat} {P:List Nat→Prop} {Q:Nat→Prop} {ns:List (List Nat)}
end
end Go.Proofs.Syn
namespace Go.Proofs.Syn
section
variable {T:Nat→Option K} {F:Nat} {dg:Nat→List Nat} {P:List Nat→Prop} {Q:Nat→Prop} {ns:List (List Nat)}
end
end Go.Proofs.Syn
namespace Go.Proofs.YtpcniebkabkikaaGreatDoor
open Go
open Go.Proofs.Syn (K Ex mk4 nm1 opLv opMark unMark br)
def Soft (r:List Nat):Prop:=∀ x,r.head?=some x→nameB x=false∧∀ m ∈ mark2,m[1]? ≠ some x
theorem soft_sep (t:List Nat) {r:List Nat} (h:Soft r):Sep t r:=by
  cases r with
  | nil=>exact sep_nil t
  | cons x r=>exact sep_soft t (h x rfl).1 (h x rfl).2 r
theorem soft_cons {x:Nat} (h:nameB x=false∧∀ m ∈ mark2,m[1]? ≠ some x) (r:List Nat):Soft (x :: r):=fun y hy=>by
  obtain rfl:x=y:=by simpa using hy
  exact h
theorem good_mk (s:List Nat) (h:wordL s=(s.length,4)) (hs:s ≠ []) (hh:∀ c,s.head?=some c→blankB c=false∧c ≠ 35):Good 4 s 0:=⟨h,hs,hh,fun e=>absurd e.1 (by decide),fun e=>absurd e.1 (by decide),rfl⟩
theorem good_head {k v:Nat} {t:List Nat} (h:Good k t v) (hk:k=1 ∨ k=3):∃ x l,t=x :: l∧x ≠ 61:=by
  cases t with
  | nil=>exact absurd rfl h.ne
  | cons x l =>
    refine ⟨x,l,rfl,?_⟩
    rintro rfl
    have hw:=h.word
    rw [wordL,if_neg (by decide),if_neg (by decide)] at hw
    split at hw
    · injection hw with _ h4;omega
    · split at hw
      · injection hw with _ h4;omega
      · injection hw with _ h4;omega
section
variable (dg:Nat→List Nat)
def exIt:Ex→Nat→List Nat→List (List Nat × K)
  | .num v,_,g=>[(g,⟨3,dg v,v⟩)]
  | .nm s,_,g=>[(g,nm1 s)]
  | .idx s e,_,g=>(g,nm1 s) :: ([],mk4 [91]) :: (exIt e 0 []++[([],mk4 [93])])
  | .un o e,_,g=>(g,mk4 (unMark o)) :: exIt e 6 []
  | .bin o l r,lv,g =>
    if opLv o<lv then (g,mk4 [40]) :: ((exIt l (opLv o) []++([32],mk4 (opMark o)) :: exIt r (opLv o+1) [32])++[([],mk4 [41])])
    else exIt l (opLv o) g++([32],mk4 (opMark o)) :: exIt r (opLv o+1) [32]
def exText:Ex→Nat→List Nat
  | .num v,_=>dg v
  | .nm s,_=>s
  | .idx s e,_=>s++91 :: (exText e 0++[93])
  | .un o e,_=>unMark o++exText e 6
  | .bin o l r,lv =>
    if opLv o<lv then 40 :: (exText l (opLv o)++32 :: (opMark o++32 :: exText r (opLv o+1))++[41])
    else exText l (opLv o)++32 :: (opMark o++32 :: exText r (opLv o+1))
theorem exIt_tk:∀ (e:Ex) (lv:Nat) (g:List Nat),(exIt dg e lv g).map Prod.snd=e.tk dg lv
  | .num v,_,g=>rfl
  | .nm s,_,g=>rfl
  | .idx s e,_,g=>by
    rw [exIt,Ex.tk,List.map_cons,List.map_cons,List.map_append,exIt_tk e];rfl
  | .un o e,_,g=>by rw [exIt,Ex.tk,List.map_cons,exIt_tk e]
  | .bin o l r,lv,g=>by
    rw [exIt,Ex.tk]
    unfold br
    by_cases h:opLv o<lv
    · rw [if_pos h,if_pos (by simpa using h),List.map_cons,List.map_append,List.map_append,List.map_cons,exIt_tk l,exIt_tk r];rfl
    · rw [if_neg h,if_neg (by simpa using h),List.map_append,List.map_cons,exIt_tk l,exIt_tk r]
theorem exIt_lay:∀ (e:Ex) (lv:Nat) (g:List Nat),lay (exIt dg e lv g)=g++exText dg e lv
  | .num v,_,g=>by simp [exIt,exText,lay]
  | .nm s,_,g=>by simp [exIt,exText,lay,nm1]
  | .idx s e,_,g=>by
    rw [exIt,exText,lay,lay,lay_app,exIt_lay e];simp [lay,nm1,mk4]
  | .un o e,_,g=>by rw [exIt,exText,lay,exIt_lay e];simp [mk4]
  | .bin o l r,lv,g=>by
    rw [exIt,exText]
    by_cases h:opLv o<lv
    · rw [if_pos h,if_pos h,lay,lay_app,lay_app,lay,exIt_lay l,exIt_lay r];simp [lay,mk4]
    · rw [if_neg h,if_neg h,lay_app,lay,exIt_lay l,exIt_lay r];simp [mk4]
end
section
variable {dg:Nat→List Nat}
def PN (s:List Nat):Prop:=Good 1 s 0
def QN (dg:Nat→List Nat) (v:Nat):Prop:=Good 3 (dg v) v
theorem un_head:∀ o:Fin 18,15≤o.val→(unMark o.val).head? ≠ some 61∧unMark o.val ≠ []:=by decide
theorem exText_head:∀ (e:Ex) (lv:Nat),e.Wf→e.All PN (QN dg)→∃ x l,exText dg e lv=x :: l∧x ≠ 61
  | .num v,_,_,h=>good_head h (.inr rfl)
  | .nm s,_,_,h=>good_head h (.inl rfl)
  | .idx s e,_,_,h=>by
    obtain ⟨x,l,h1,h2⟩:=good_head h.1 (.inl rfl)
    exact ⟨x,l++91 :: (exText dg e 0++[93]),by rw [exText,h1];rfl,h2⟩
  | .un o e,_,hw,h=>by
    obtain ⟨h1,h2⟩:=un_head ⟨o,by have:=hw.2.1;omega⟩ hw.1
    cases hu:unMark o with
    | nil=>exact absurd hu h2
    | cons x l =>
      refine ⟨x,l++exText dg e 6,by rw [exText,hu];rfl,fun hx=>h1 ?_⟩
      show (unMark o).head?=some 61
      rw [hu,hx];rfl
  | .bin o l r,lv,hw,h=>by
    rw [exText]
    split
    · exact ⟨40,_,rfl,by decide⟩
    · obtain ⟨x,m,h1,h2⟩:=exText_head l (opLv o) hw.2.2.1 h.1
      exact ⟨x,_,by rw [h1];rfl,h2⟩
theorem op_good:∀ o:Fin 15,1≤o.val→wordL (opMark o.val)=((opMark o.val).length,4)∧opMark o.val ≠ []∧∀ c,(opMark o.val).head?=some c→blankB c=false∧c ≠ 35:=by
  intro o h
  have:∀ o:Fin 15,1≤o.val→wordL (opMark o.val)=((opMark o.val).length,4)∧opMark o.val ≠ []∧((opMark o.val).head?.map fun c=>(blankB c,decide (c=35)))=some (false,false):=by decide
  obtain ⟨h1,h2,h3⟩:=this o h
  exact ⟨h1,h2,fun c hc=>by rw [hc] at h3;simpa using h3⟩
theorem un_good:∀ o:Fin 18,15≤o.val→wordL (unMark o.val)=((unMark o.val).length,4)∧unMark o.val ≠ []∧∀ c,(unMark o.val).head?=some c→blankB c=false∧c ≠ 35:=by
  intro o h
  have:∀ o:Fin 18,15≤o.val→wordL (unMark o.val)=((unMark o.val).length,4)∧unMark o.val ≠ []∧((unMark o.val).head?.map fun c=>(blankB c,decide (c=35)))=some (false,false):=by decide
  obtain ⟨h1,h2,h3⟩:=this o h
  exact ⟨h1,h2,fun c hc=>by rw [hc] at h3;simpa using h3⟩
theorem one_good (c:Nat) (h:wordL [c]=(1,4)∧blankB c=false∧c ≠ 35):Good 4 [c] 0:=good_mk [c] h.1 (by simp) (fun d hd=>by
  obtain rfl:c=d:=by simpa using hd
  exact h.2)
theorem un_sep {o:Nat} (h1:15≤o) (h2:o≤17) {x:Nat} {r:List Nat} (hx:x ≠ 61):Sep (unMark o) (x :: r):=by
  have:o=15 ∨ o=16 ∨ o=17:=by omega
  rcases this with rfl | rfl | rfl
  · exact sep_mark (by decide) (by decide) (by decide) _
  · intro c y hc hy
    obtain rfl:33=c:=by
      have:(some 33:Option Nat)=some c:=hc
      simpa using this
    obtain rfl:x=y:=by simpa using hy
    refine ⟨fun e=>absurd e (by decide),fun e=>absurd e (by decide),fun _ hm=>hx ?_⟩
    have:[33,x] ∈ ([[61,61],[33,61],[60,61],[60,60],[62,62]]:List (List Nat)):=hm
    simpa using this
  · exact sep_mark (by decide) (by decide) (by decide) _
theorem lays_ex:∀ (e:Ex) (lv:Nat) (g r:List Nat),e.Wf→e.All PN (QN dg)→(∀ b ∈ g,blankB b=true)→Soft r→Lays (exIt dg e lv g) r
  | .num v,_,g,r,_,h,hg,hr=>⟨hg,h,soft_sep _ hr,trivial⟩
  | .nm s,_,g,r,_,h,hg,hr=>⟨hg,h,soft_sep _ hr,trivial⟩
  | .idx s e,_,g,r,hw,h,hg,hr=>by
    refine ⟨hg,h.1,sep_soft _ (by decide) (by decide) _,fun _ h=>(by cases h),one_good 91 (by decide),sep_mark (by decide) (by decide) (by decide) _,?_⟩
    exact (lays_app _ _ _).2 ⟨lays_ex e 0 [] _ hw h.2 (fun _ h=>by cases h) (soft_cons (by decide) _),fun _ h=>(by cases h),one_good 93 (by decide),soft_sep _ hr,trivial⟩
  | .un o e,_,g,r,hw,h,hg,hr=>by
    obtain ⟨x,l,h1,h2⟩:=exText_head (dg:=dg) e 6 hw.2.2 h
    obtain ⟨u1,u2,u3⟩:=un_good ⟨o,by have:=hw.2.1;omega⟩ hw.1
    refine ⟨hg,good_mk _ u1 u2 u3,?_,lays_ex e 6 [] r hw.2.2 h (fun _ h=>by cases h) hr⟩
    rw [exIt_lay,h1]
    exact un_sep hw.1 hw.2.1 h2
  | .bin o l r,lv,g,q,hw,h,hg,hq=>by
    obtain ⟨u1,u2,u3⟩:=op_good ⟨o,by have:=hw.2.1;omega⟩ hw.1
    have hb:∀ b ∈ ([32]:List Nat),blankB b=true:=by decide
    have hbody:∀ (g q:List Nat),(∀ b ∈ g,blankB b=true)→Soft q→Lays (exIt dg l (opLv o) g++([32],mk4 (opMark o)) :: exIt dg r (opLv o+1) [32]) q:=fun g q hg hq =>
      (lays_app _ _ _).2 ⟨lays_ex l (opLv o) g _ hw.2.2.1 h.1 hg (soft_cons (by decide) _),hb,good_mk _ u1 u2 u3,by rw [exIt_lay];exact sep_blank _ (by decide) _,lays_ex r (opLv o+1) [32] q hw.2.2.2 h.2 hb hq⟩
    rw [exIt]
    split
    · exact ⟨hg,one_good 40 (by decide),sep_mark (by decide) (by decide) (by decide) _,(lays_app _ _ _).2 ⟨hbody [] _ (fun _ h=>by cases h) (soft_cons (by decide) _),fun _ h=>(by cases h),one_good 41 (by decide),soft_sep _ hq,trivial⟩⟩
    · exact hbody g q hg hq
theorem scan_ex {e:Ex} (hw:e.Wf) (h:e.All PN (QN dg)) (a:Nat):(scanL (exText dg e 0) a).2.2=0∧(scanL (exText dg e 0) a).1.map (fun t=>(⟨t.kind,t.text,t.value⟩:K))=e.tk dg 0:=by
  have:=scan_lay (exIt dg e 0 []) [] a (lays_ex e 0 [] [] hw h (fun _ h=>by cases h) (fun _ h=>by cases h)) (fun _ h=>by cases h)
  rw [List.append_nil,exIt_lay,List.nil_append,exIt_tk] at this
  exact this
end
end Go.Proofs.YtpcniebkabkikaaGreatDoor
namespace Go.Proofs.YtpcniebkabkikaaGreatDoor
open Go
open Go.Proofs.Syn (K Ex Sx mk4 nm1 comma comma_cons exsTk tgTk tx)
def kk (t:Tok):K:=⟨t.kind,t.text,t.value⟩
section
variable (dg:Nat→List Nat)
variable {dg}
end
end Go.Proofs.YtpcniebkabkikaaGreatDoor
namespace Go.Proofs.YtpcniebkabkikaaGreatDoor
open Go
open Go.Proofs.Syn (K Ex Sx De Ar Fx St At R mk4 nm1 comma comma_cons exsTk tgTk tx lbNs lbTk mem_lbNs)
section
variable (dg:Nat→List Nat)
variable {dg}
end
end Go.Proofs.YtpcniebkabkikaaGreatDoor
namespace Go.Proofs.Syn
def Ex.bk:Ex→Nat→Nat
  | .num _,_=>0
  | .nm _,_=>0
  | .idx _ e,_=>e.bk 0
  | .un _ e,_=>e.bk 6
  | .bin o l r,lv=>l.bk (opLv o)+r.bk (opLv o+1)+if opLv o<lv then 1 else 0
theorem Ex.bk_mono:∀ (e:Ex) {a b:Nat},a≤b→e.bk a≤e.bk b
  | .num _,_,_,_=>Nat.le_refl _
  | .nm _,_,_,_=>Nat.le_refl _
  | .idx _ _,_,_,_=>Nat.le_refl _
  | .un _ _,_,_,_=>Nat.le_refl _
  | .bin o l r,a,b,h=>by
    rw [Ex.bk,Ex.bk]
    by_cases h1:opLv o<a
    · rw [if_pos h1,if_pos (by omega)];exact Nat.le_refl _
    · rw [if_neg h1];omega
theorem Ex.bk_six:∀ (e:Ex),e.bk 6≤e.bk 0+1
  | .num _=>by rw [Ex.bk,Ex.bk];omega
  | .nm _=>by rw [Ex.bk,Ex.bk];omega
  | .idx _ _=>by rw [Ex.bk,Ex.bk];omega
  | .un _ _=>by rw [Ex.bk,Ex.bk];omega
  | .bin o l r=>by
    rw [Ex.bk,Ex.bk]
    split <;> split <;> omega
section
variable {T:Nat→Option K} {F:Nat}
def cnt (T:Nat→Option K):Nat→Nat
  | 0=>0
  | i+1=>cnt T i+if is T i [40] then 1 else 0
theorem cnt_mono {i j:Nat} (h:i≤j):cnt T i≤cnt T j:=by
  induction h with
  | refl=>exact Nat.le_refl _
  | step _ ih=>rw [cnt];omega
def TrC (T:Nat→Option K) (p:Nat→R (List Tm)) (lv:Nat):Prop:=∀ i l j,p i=.ok (l,j)→∃ e:Ex,e.Wf∧l=e.flat∧cnt T i+e.bk lv≤cnt T j
theorem loop_cntN {p:Nat→R (List Tm)} {lv c:Nat} (hlv:lv≤5) (hp:TrC T p (lv+1)):∀ (f:Nat) (e:Ex) (i:Nat) (l:List Tm) (j:Nat),e.Wf→c+e.bk lv≤cnt T i→loopF T p (marks lv) f e.flat i=.ok (l,j)→∃ e:Ex,e.Wf∧l=e.flat∧c+e.bk lv≤cnt T j
  | 0,_,_,_,_,_,_,h=>by cases h
  | f+1,e,i,l,j,hw,hd,h=>by
    rw [loopF] at h
    split at h
    · injection h with h;injection h with h h'
      exact ⟨e,hw,h.symm,by rw [← h'];exact hd⟩
    · rename_i ho
      obtain ⟨r,i2,h1,h2⟩:=R.on_ok h
      obtain ⟨e2,hw2,rfl,hd2⟩:=hp _ _ _ h1
      obtain ⟨m,hm,he⟩:=opOf_mem ho
      have hb:=marks_lv ⟨lv,by omega⟩ m hm
      rw [he] at hb
      obtain ⟨b1,b2,b3⟩:=hb
      have b1:opLv (opOf T (marks lv) i)=lv:=b1
      refine loop_cntN hlv hp f (.bin (opOf T (marks lv) i) e e2) i2 l j ⟨b2,b3,hw,hw2⟩ ?_ h2
      have hs:cnt T i≤cnt T (i+1):=cnt_mono (by omega)
      rw [Ex.bk,b1,if_neg (by omega)];omega
theorem tower_cntN {u:Nat→R (List Tm)} (hu:TrC T u 6):∀ k,k≤6→TrC T (tower T F u k) (6 - k)
  | 0,_=>hu
  | k+1,hk=>by
    intro i l j h
    rw [tower] at h
    obtain ⟨l1,i1,h1,h2⟩:=R.on_ok h
    obtain ⟨e,hw,rfl,hd⟩:=tower_cntN hu k (by omega) _ _ _ h1
    rw [show 6 - (k+1)=5 - k by omega]
    refine loop_cntN (by omega) ?_ _ e _ _ _ hw (Nat.le_trans (Nat.add_le_add_left (e.bk_mono (by omega)) _) hd) h2
    rw [show 5 - k+1=6 - k by omega]
    exact tower_cntN hu k (by omega)
theorem uns_cnt:∀ (ops:List Nat) (e:Ex),(∀ o ∈ ops,15≤o∧o≤17)→e.Wf→∃ e':Ex,e'.Wf∧e.flat++ops.map (fun o=>(⟨4,o,[]⟩:Tm))=e'.flat∧e'.bk 6=e.bk 6
  | [],e,_,hw=>⟨e,hw,by simp,rfl⟩
  | o :: ops,e,ho,hw=>by
    have h1:=ho o (List.mem_cons_self ..)
    obtain ⟨e',k1,k2,k3⟩:=uns_cnt ops (.un o e) (fun x hx=>ho x (List.mem_cons_of_mem _ hx)) ⟨h1.1,h1.2,hw⟩
    exact ⟨e',k1,by rw [← k2,Ex.flat];simp,k3⟩
theorem want_atN {i j:Nat} {s:List Nat} {u:Unit} (h:want T i s=.ok (u,j)):j=i+1:=by
  unfold want at h
  split at h
  · injection h with h;injection h with _ h;exact h.symm
  · cases h
theorem brack_cntN {d:Nat} {g:List Tm→List Tm} {c:List Nat} {i j:Nat} {l:List Tm} (hs:∀ p,sub T F d=some p→TrC T p 0) (h:brack T (sub T F d) g c i=.ok (l,j)):∃ e:Ex,e.Wf∧l=g e.flat∧cnt T (i+1)+e.bk 0≤cnt T j:=by
  cases d with
  | zero=>cases h
  | succ d =>
    unfold brack at h
    obtain ⟨l1,i1,h1,h⟩:=R.on_ok (show (exprD T F d (i+1)).on _=_ from h)
    obtain ⟨_,i2,hw,h⟩:=R.on_ok h
    injection h with h;injection h with h h'
    obtain ⟨e,k1,k2,k3⟩:=hs _ rfl _ _ _ h1
    refine ⟨e,k1,by rw [← h,k2],?_⟩
    rw [← h',want_atN hw]
    exact Nat.le_trans k3 (cnt_mono (by omega))
theorem unOps_at:∀ (f i:Nat) (l:List Nat) (j:Nat),unOps T f i=.ok (l,j)→i≤j
  | 0,_,_,_,h=>by cases h
  | f+1,i,l,j,h=>by
    rw [unOps] at h
    split at h
    · injection h with h;injection h with _ h;omega
    · obtain ⟨l1,i1,h1,h⟩:=R.on_ok h
      injection h with h;injection h with _ h
      have:=unOps_at f _ _ _ h1
      omega
theorem unary_cntN {d:Nat} (hs:∀ p,sub T F d=some p→TrC T p 0):TrC T (unary T F (sub T F d)) 6:=by
  intro i l j h
  rw [unary_atom] at h
  obtain ⟨ops,i1,h1,h⟩:=R.on_ok h
  have ho:=(unOps_good _ _ _ _ h1).1
  have hi:=cnt_mono (T:=T) (unOps_at _ _ _ _ h1)
  obtain ⟨l2,i2,h2,h⟩:=R.on_ok h
  injection h with h;injection h with h hj
  have key:∃ e:Ex,e.Wf∧l2=e.flat∧cnt T i1+e.bk 6≤cnt T i2:=by
    unfold atom at h2
    split at h2
    · cases h2
    · rename_i k hk
      split at h2
      · injection h2 with h2;injection h2 with h2 h2'
        refine ⟨.num k.value,trivial,h2.symm,?_⟩
        rw [← h2']
        exact cnt_mono (by omega)
      · split at h2
        · rename_i h40
          obtain ⟨e,k1,k2,k3⟩:=brack_cntN hs h2
          refine ⟨e,k1,k2,?_⟩
          have:=e.bk_six
          have hc:cnt T (i1+1)=cnt T i1+1:=by rw [cnt,if_pos h40]
          omega
        · unfold atomN at h2
          obtain ⟨s,i3,h3,h2⟩:=R.on_ok h2
          obtain ⟨_,he3,_⟩:=name_ok h3
          have hc:cnt T i1≤cnt T i3:=cnt_mono (by omega)
          split at h2
          · obtain ⟨e,k1,k2,k3⟩:=brack_cntN hs h2
            have hc2:cnt T i3≤cnt T (i3+1):=cnt_mono (by omega)
            exact ⟨.idx s e,k1,k2,by rw [Ex.bk];omega⟩
          · injection h2 with h2;injection h2 with h2 h2'
            exact ⟨.nm s,trivial,h2.symm,by rw [← h2'];exact hc⟩
  obtain ⟨e,k1,rfl,k3⟩:=key
  obtain ⟨e',q1,q2,q3⟩:=uns_cnt ops.reverse e (fun o hx=>ho o (List.mem_reverse.1 hx)) k1
  exact ⟨e',q1,by rw [← h,q2],by rw [q3,← hj];omega⟩
theorem exprD_cnt:∀ d,TrC T (exprD T F d) 0
  | 0=>by
    rw [exprD_sub]
    exact tower_cntN (unary_cntN (fun p h=>by cases h)) 6 (Nat.le_refl _)
  | d+1=>by
    rw [exprD_sub]
    exact tower_cntN (unary_cntN (fun p h=>by
      injection h with h
      rw [← h];exact exprD_cnt d)) 6 (Nat.le_refl _)
theorem flat_inj:∀ (e e':Ex) (r r':List Tm),r++e.flat=r'++e'.flat→r=r'∧e=e'
  | .num v,e',r,r',h=>by
    cases e' with
    | num w =>
      obtain ⟨h1,h2⟩:=List.append_inj' h rfl
      simp [Ex.flat] at h2
      exact ⟨h1,by rw [h2]⟩
    | _=>rw [Ex.flat,Ex.flat] at h;(try rw [← List.append_assoc] at h);have:=(List.append_inj' h rfl).2;simp at this
  | .nm s,e',r,r',h=>by
    cases e' with
    | nm t =>
      obtain ⟨h1,h2⟩:=List.append_inj' h rfl
      simp [Ex.flat] at h2
      exact ⟨h1,by rw [h2]⟩
    | _=>rw [Ex.flat,Ex.flat] at h;(try rw [← List.append_assoc] at h);have:=(List.append_inj' h rfl).2;simp at this
  | .idx s e,e',r,r',h=>by
    cases e' with
    | idx t e2 =>
      rw [Ex.flat,Ex.flat,← List.append_assoc,← List.append_assoc] at h
      obtain ⟨h1,h2⟩:=List.append_inj' h rfl
      obtain ⟨h3,h4⟩:=flat_inj e e2 r r' h1
      simp at h2
      exact ⟨h3,by rw [h4,h2]⟩
    | _=>rw [Ex.flat,Ex.flat] at h;rw [← List.append_assoc] at h;(try rw [← List.append_assoc r'] at h);have:=(List.append_inj' h rfl).2;simp at this
  | .un o e,e',r,r',h=>by
    cases e' with
    | un p e2 =>
      rw [Ex.flat,Ex.flat,← List.append_assoc,← List.append_assoc] at h
      obtain ⟨h1,h2⟩:=List.append_inj' h rfl
      obtain ⟨h3,h4⟩:=flat_inj e e2 r r' h1
      simp at h2
      exact ⟨h3,by rw [h4,h2]⟩
    | _=>rw [Ex.flat,Ex.flat] at h;rw [← List.append_assoc] at h;(try rw [← List.append_assoc r'] at h);have:=(List.append_inj' h rfl).2;simp at this
  | .bin o a b,e',r,r',h=>by
    cases e' with
    | bin p a2 b2 =>
      have h:(r++a.flat++b.flat)++[⟨5,o,[]⟩]=(r'++a2.flat++b2.flat)++[⟨5,p,[]⟩]:=by
        rw [Ex.flat,Ex.flat] at h
        simpa only [List.append_assoc] using h
      obtain ⟨h1,h2⟩:=List.append_inj' h rfl
      obtain ⟨h3,h4⟩:=flat_inj b b2 _ _ h1
      obtain ⟨h5,h6⟩:=flat_inj a a2 _ _ h3
      simp at h2
      exact ⟨h5,by rw [h4,h6,h2]⟩
    | _=>rw [Ex.flat,Ex.flat] at h;rw [← List.append_assoc] at h;(try rw [← List.append_assoc r'] at h);have:=(List.append_inj' h rfl).2;simp at this
theorem expr_cntN {e:Ex} {i j:Nat} (h:expr T F i=.ok (e.flat,j)):cnt T i+e.bk 0≤cnt T j:=by
  obtain ⟨e',_,h2,h3⟩:=exprD_cnt (T:=T) (F:=F) 12 _ _ _ h
  obtain ⟨_,rfl⟩:=flat_inj e e' [] [] (by rw [h2])
  exact h3
end
end Go.Proofs.Syn
namespace Go.Proofs.YtpcniebkabkikaaGreatDoor
open Go
open Go.Proofs.Syn (K Ex opLv opMark unMark cnt is)
def parT (k:K):Bool:=k.text == [40]
theorem scan_par:∀ (N:Nat) (l:List Nat),l.length≤N→∀ a,((scanL l a).1.map kk).countP parT≤l.count 40
  | _,[],_,a=>by rw [scanL];exact Nat.zero_le _
  | 0,c :: r,h,a=>by simp at h
  | N+1,c :: r,h,a=>by
    have hr:r.length≤N:=by simpa using h
    rw [scanL]
    split
    · exact Nat.le_trans (scan_par N r hr _) (List.count_le_count_cons ..)
    · split
      · rename_i h35
        subst h35
        refine Nat.le_trans (scan_par N _ ?_ _) (List.Sublist.count_le _ (List.dropWhile_sublist _))
        have:=dropWhile_lt r
        simp only [List.length_cons] at this h
        omega
      · split
        · exact Nat.zero_le _
        · rename_i h0
          split
          · exact Nat.zero_le _
          · split
            · exact Nat.zero_le _
            · have hlt:=drop_lt c r (wordL (c :: r)).1 h0
              have ih:=scan_par N ((c :: r).drop (wordL (c :: r)).1) (by simp only [List.length_cons] at hlt h ⊢;omega) (a+(wordL (c :: r)).1)
              have hc:(c :: r).count 40=((c :: r).take (wordL (c :: r)).1).count 40+((c :: r).drop (wordL (c :: r)).1).count 40:=by
                rw [← List.count_append,List.take_append_drop]
              simp only [List.map_cons,List.countP_cons]
              rw [hc]
              have h1:∀ (t:Tok),(if parT (kk t)=true then 1 else 0)≤t.text.count 40:=by
                intro t
                split
                · rename_i hp
                  have:t.text=[40]:=by simpa [parT,kk] using hp
                  rw [this];decide
                · exact Nat.zero_le _
              have h2:=h1 ⟨(wordL (c :: r)).2,(c :: r).take (wordL (c :: r)).1,if (wordL (c :: r)).2=3 then valD ((c :: r).take (wordL (c :: r)).1) else 0,a⟩
              exact Nat.add_comm _ _ ▸ Nat.add_le_add h2 ih
theorem cnt_list (ts:List K):∀ j,cnt (fun i=>ts[i]?) j≤(ts.take j).countP parT
  | 0=>Nat.zero_le _
  | j+1=>by
    have ih:=cnt_list ts j
    rw [cnt,List.take_add_one,List.countP_append]
    have:(if is (fun i=>ts[i]?) j [40]=true then 1 else 0)≤(ts[j]?).toList.countP parT:=by
      split
      · rename_i h
        unfold is at h
        split at h
        · rename_i k hk
          rw [show ts[j]?=some k from hk]
          have:parT k=true:=(Bool.and_eq_true_iff.1 h).2
          simp [this]
        · cases h
      · exact Nat.zero_le _
    omega
theorem cnt_all (ts:List K) (j:Nat):cnt (fun i=>ts[i]?) j≤ts.countP parT:=Nat.le_trans (cnt_list ts j) (List.Sublist.countP_le (List.take_sublist j ts))
section
variable {dg:Nat→List Nat}
theorem un_par:∀ o:Fin 18,(unMark o.val).count 40=0:=by decide
theorem op_par:∀ o:Fin 15,(opMark o.val).count 40=0:=by decide
theorem good_par {k v:Nat} {t:List Nat} (h:Good k t v) (hk:k=1 ∨ k=3):t.count 40=0:=by
  rw [List.count_eq_zero]
  intro hm
  obtain ⟨hw,hs,_⟩:=h
  cases t with
  | nil=>cases hm
  | cons c t =>
    by_cases hl:letterB c=true
    · rw [wordL,if_pos hl] at hw
      injection hw with h1 _
      have hall:(c :: t).takeWhile nameB=c :: t:=by
        have:=takeWhile_is_take (p:=nameB) (c :: t)
        rw [h1,List.take_length] at this
        exact this.symm
      have:=mem_takeWhile (p:=nameB) (c :: t) 40 (by rw [hall];exact hm)
      cases this
    · by_cases hd:digitB c=true
      · rw [wordL,if_neg hl,if_pos hd] at hw
        injection hw with h1 _
        have hall:(c :: t).takeWhile digitB=c :: t:=by
          have:=takeWhile_is_take (p:=digitB) (c :: t)
          rw [h1,List.take_length] at this
          exact this.symm
        have:=mem_takeWhile (p:=digitB) (c :: t) 40 (by rw [hall];exact hm)
        cases this
      · rw [wordL,if_neg hl,if_neg hd] at hw
        split at hw
        · injection hw with _ h4;omega
        · split at hw
          · injection hw with _ h4;omega
          · injection hw with _ h4;omega
theorem exText_par:∀ (e:Ex) (lv:Nat),e.Wf→e.All PN (QN dg)→(exText dg e lv).count 40=e.bk lv
  | .num v,_,_,h=>good_par h (.inr rfl)
  | .nm s,_,_,h=>good_par h (.inl rfl)
  | .idx s e,_,hw,h=>by
    rw [exText,Ex.bk,List.count_append,good_par h.1 (.inl rfl),List.count_cons,List.count_append,exText_par e 0 hw h.2];simp
  | .un o e,_,hw,h=>by
    rw [exText,Ex.bk,List.count_append,un_par ⟨o,by have:=hw.2.1;omega⟩,exText_par e 6 hw.2.2 h,Nat.zero_add]
  | .bin o l r,lv,hw,h=>by
    have ho:=op_par ⟨o,by have:=hw.2.1;omega⟩
    simp only at ho
    rw [exText,Ex.bk]
    have hb:(exText dg l (opLv o)++32 :: (opMark o++32 :: exText dg r (opLv o+1))).count 40=l.bk (opLv o)+r.bk (opLv o+1):=by
      rw [List.count_append,exText_par l _ hw.2.2.1 h.1,List.count_cons,List.count_append,ho,List.count_cons,exText_par r _ hw.2.2.2 h.2];simp
    split
    · rw [List.count_cons,List.count_append,hb];simp
    · rw [hb];rfl
theorem bare {e:Ex} (hw:e.Wf) (ha:e.All PN (QN dg)) (s:List Nat) (a:Nat) {F i j:Nat} (h:Syn.expr (fun i=>((scanL s a).1.map kk)[i]?) F i=.ok (e.flat,j)):(exText dg e 0).count 40≤s.count 40:=by
  rw [exText_par e 0 hw ha]
  have h1:=Syn.expr_cntN h
  have h2:=cnt_all ((scanL s a).1.map kk) j
  have h3:=scan_par s.length s (Nat.le_refl _) a
  omega
end
end Go.Proofs.YtpcniebkabkikaaGreatDoor
namespace Go.Proofs.YtpcniebkabkikaaGreatDoor
open Go
open Go.Proofs.Syn (K Ex opLv opMark unMark)
def dpB (d:Nat) (c:Nat):Nat:=if c=40 then d+1 else if c=41 then d - 1 else d
def shF:List Nat→Nat→Option Nat
  | [],_=>none
  | c :: r,d=>if c=41∧d=1 then some 0 else (shF r (dpB d c)).map (·+1)
def noB (l:List Nat):Prop:=∀ c ∈ l,c ≠ 40∧c ≠ 41
theorem map_add {o:Option Nat} {a b:Nat}:(o.map (·+a)).map (·+b)=o.map (·+(a+b)):=by
  rw [Option.map_map];congr 1;funext x;show x+a+b=x+(a+b);omega
theorem shF_no:∀ (l r:List Nat) (d:Nat),noB l→shF (l++r) d=(shF r d).map (·+l.length)
  | [],r,d,_=>by simp
  | c :: l,r,d,h=>by
    obtain ⟨h1,h2⟩:=h c (List.mem_cons_self ..)
    rw [List.cons_append,shF,if_neg (fun e=>h2 e.1),dpB,if_neg h1,if_neg h2,shF_no l r d (fun x hx=>h x (List.mem_cons_of_mem _ hx)),map_add,List.length_cons]
theorem shF_op (r:List Nat) (d:Nat):shF (40 :: r) d=(shF r (d+1)).map (·+1):=by
  rw [shF,if_neg (by omega),dpB,if_pos rfl]
theorem shF_cl (r:List Nat) (d:Nat):shF (41 :: r) (d+2)=(shF r (d+1)).map (·+1):=by
  rw [shF,if_neg (by omega),dpB,if_neg (by omega),if_pos rfl];rfl
theorem good_no {k v:Nat} {t:List Nat} (h:Good k t v) (hk:k=1 ∨ k=3):noB t:=by
  intro x hm
  obtain ⟨hw,hs,_⟩:=h
  cases t with
  | nil=>cases hm
  | cons c t =>
    by_cases hl:letterB c=true
    · rw [wordL,if_pos hl] at hw
      injection hw with h1 _
      have hall:(c :: t).takeWhile nameB=c :: t:=by
        have:=takeWhile_is_take (p:=nameB) (c :: t)
        rw [h1,List.take_length] at this
        exact this.symm
      have:=mem_takeWhile (p:=nameB) (c :: t) x (by rw [hall];exact hm)
      constructor <;> (rintro rfl;cases this)
    · by_cases hd:digitB c=true
      · rw [wordL,if_neg hl,if_pos hd] at hw
        injection hw with h1 _
        have hall:(c :: t).takeWhile digitB=c :: t:=by
          have:=takeWhile_is_take (p:=digitB) (c :: t)
          rw [h1,List.take_length] at this
          exact this.symm
        have:=mem_takeWhile (p:=digitB) (c :: t) x (by rw [hall];exact hm)
        constructor <;> (rintro rfl;cases this)
      · rw [wordL,if_neg hl,if_neg hd] at hw
        split at hw
        · injection hw with _ h4;omega
        · split at hw
          · injection hw with _ h4;omega
          · injection hw with _ h4;omega
section
variable {dg:Nat→List Nat}
theorem un_no:∀ o:Fin 18,∀ c ∈ unMark o.val,c ≠ 40∧c ≠ 41:=by decide
theorem op_no:∀ o:Fin 15,∀ c ∈ opMark o.val,c ≠ 40∧c ≠ 41:=by decide
theorem noB_one {c:Nat} (h:c ≠ 40∧c ≠ 41):noB [c]:=fun x hx=>by rw [List.mem_singleton.1 hx];exact h
theorem shF_ex:∀ (e:Ex) (lv:Nat) (r:List Nat) (d:Nat),e.Wf→e.All PN (QN dg)→shF (exText dg e lv++r) (d+1)=(shF r (d+1)).map (·+(exText dg e lv).length)
  | .num v,lv,r,d,_,h=>shF_no _ _ _ (good_no h (.inr rfl))
  | .nm s,lv,r,d,_,h=>shF_no _ _ _ (good_no h (.inl rfl))
  | .idx s e,lv,r,d,hw,h=>by
    rw [exText,List.append_assoc,shF_no _ _ _ (good_no h.1 (.inl rfl)),List.cons_append,List.append_assoc]
    rw [show (91 :: (exText dg e 0++([93]++r)))=[91]++(exText dg e 0++([93]++r)) from rfl,shF_no [91] _ _ (noB_one (by decide)),shF_ex e 0 _ d hw h.2,shF_no [93] _ _ (noB_one (by decide)),map_add,map_add,map_add]
    congr 2;funext x;simp only [List.length_append,List.length_cons,List.length_nil];omega
  | .un o e,lv,r,d,hw,h=>by
    rw [exText,List.append_assoc,shF_no _ _ _ (un_no ⟨o,by have:=hw.2.1;omega⟩),shF_ex e 6 _ d hw.2.2 h,map_add]
    congr 2;funext x;simp only [List.length_append];omega
  | .bin o a b,lv,r,d,hw,h=>by
    have key:∀ (r:List Nat) (d:Nat),shF ((exText dg a (opLv o)++32 :: (opMark o++32 :: exText dg b (opLv o+1)))++r) (d+1)=(shF r (d+1)).map (·+(exText dg a (opLv o)++32 :: (opMark o++32 :: exText dg b (opLv o+1))).length):=by
      intro r d
      rw [List.append_assoc,shF_ex a _ _ d hw.2.2.1 h.1,List.cons_append,List.append_assoc,List.cons_append]
      rw [show (32 :: (opMark o++32 :: (exText dg b (opLv o+1)++r)))=[32]++(opMark o++([32]++(exText dg b (opLv o+1)++r))) from rfl,shF_no [32] _ _ (noB_one (by decide)),shF_no _ _ _ (op_no ⟨o,by have:=hw.2.1;omega⟩),shF_no [32] _ _ (noB_one (by decide)),shF_ex b _ _ d hw.2.2.2 h.2,map_add,map_add,map_add,map_add]
      congr 2;funext x;simp only [List.length_append,List.length_cons,List.length_nil];omega
    rw [exText]
    split
    · rw [List.cons_append,shF_op,List.append_assoc,key,List.singleton_append,shF_cl,map_add,map_add]
      congr 2;funext x;simp only [List.length_append,List.length_cons,List.length_nil];omega
    · exact key r d
def Shut (l:List Nat):Prop:=∀ p,l[p]?=some 40→∀ r,∃ n,shF ((l++r).drop p) 0=some n∧1≤n∧p+n<l.length
theorem Shut.app {a b:List Nat} (ha:Shut a) (hb:Shut b):Shut (a++b):=by
  intro p hp r
  by_cases h:p<a.length
  · rw [List.getElem?_append_left h] at hp
    obtain ⟨n,h1,h2,h3⟩:=ha p hp (b++r)
    exact ⟨n,by rw [List.append_assoc];exact h1,h2,by rw [List.length_append];omega⟩
  · rw [List.getElem?_append_right (by omega)] at hp
    obtain ⟨n,h1,h2,h3⟩:=hb (p - a.length) hp r
    refine ⟨n,?_,h2,by rw [List.length_append];omega⟩
    rw [List.append_assoc,List.drop_append,List.drop_eq_nil_of_le (by omega),List.nil_append]
    exact h1
theorem Shut.no40 {l:List Nat} (h:∀ c ∈ l,c ≠ 40):Shut l:=fun p hp _=>absurd rfl (h 40 (List.mem_of_getElem? hp))
theorem Shut.no {l:List Nat} (h:noB l):Shut l:=Shut.no40 fun c hc=>(h c hc).1
theorem shut_ex:∀ (e:Ex) (lv:Nat),e.Wf→e.All PN (QN dg)→Shut (exText dg e lv)
  | .num v,lv,_,h=>Shut.no (good_no h (.inr rfl))
  | .nm s,lv,_,h=>Shut.no (good_no h (.inl rfl))
  | .idx s e,lv,hw,h=>by
    rw [exText]
    exact (Shut.no (good_no h.1 (.inl rfl))).app (show Shut ([91]++(exText dg e 0++[93])) from (Shut.no (noB_one (by decide))).app ((shut_ex e 0 hw h.2).app (Shut.no (noB_one (by decide)))))
  | .un o e,lv,hw,h=>by
    rw [exText]
    exact (Shut.no (un_no ⟨o,by have:=hw.2.1;omega⟩)).app (shut_ex e 6 hw.2.2 h)
  | .bin o a b,lv,hw,h=>by
    have key:Shut (exText dg a (opLv o)++32 :: (opMark o++32 :: exText dg b (opLv o+1))) :=
      (shut_ex a _ hw.2.2.1 h.1).app (show Shut ([32]++(opMark o++([32]++exText dg b (opLv o+1)))) from (Shut.no (noB_one (by decide))).app ((Shut.no (op_no ⟨o,by have:=hw.2.1;omega⟩)).app ((Shut.no (noB_one (by decide))).app (shut_ex b _ hw.2.2.2 h.2))))
    have hx0:=shF_ex (dg:=dg) (.bin o a b) 0
    rw [exText,if_neg (by omega)] at hx0
    rw [exText]
    split
    · intro p hp r
      cases p with
      | zero =>
        refine ⟨(exText dg a (opLv o)++32 :: (opMark o++32 :: exText dg b (opLv o+1))).length+1,?_,by omega,by simp only [List.length_append,List.length_cons,List.length_nil];omega⟩
        rw [List.drop_zero,List.cons_append,shF_op,List.append_assoc,hx0 _ 0 hw h,List.singleton_append,shF,if_pos ⟨rfl,rfl⟩]
        simp
      | succ p =>
        have hp':((exText dg a (opLv o)++32 :: (opMark o++32 :: exText dg b (opLv o+1)))++[41])[p]?=some 40:=by simpa using hp
        obtain ⟨n,h1,h2,h3⟩:=(key.app (Shut.no40 (l:=[41]) (by decide))) p hp' r
        exact ⟨n,by rw [List.cons_append,List.drop_succ_cons];exact h1,h2,by rw [List.length_cons];omega⟩
    · exact key
end
end Go.Proofs.YtpcniebkabkikaaGreatDoor
namespace Go.Proofs.YtpcniebkabkikaaGreatDoor
open Go Go.RowKit
theorem ret_bool {a b:Bool} (h:a=b):Ending.returned (.bool a)=.returned (.bool b):=by rw [h]
theorem ret_int {k:IntKind} {a b:Int} (h:a=b):Ending.returned (.int k a)=.returned (.int k b):=by rw [h]
theorem letterB_iff (c:Nat):letterB c=true ↔ (97≤c∧c≤122) ∨ c=95:=by simp [letterB]
theorem digitB_iff (c:Nat):digitB c=true ↔ 48≤c∧c≤57:=by simp [digitB]
theorem blankB_iff (c:Nat):blankB c=true ↔ c=9 ∨ c=10 ∨ c=13 ∨ c=32:=by simp [blankB,or_assoc]
theorem isLetter_any (c:Nat) (w:World):Calls Tryz.prog 215 #[.int .u8 (c:Int)] w fun e w'=>e=.returned (.bool (letterB c))∧w=w':=by
  have hc:(97≤c∧c≤122) ∨ c<97 ∨ 122<c:=by omega
  rcases hc with ⟨h1,h2⟩ | h1 | h1
  all_goals
    go_enter Tryz.func215,Tryz.ntmps215
    go_wp2
    all_goals
      go_ret
      exact ⟨ret_bool (by rw [Bool.eq_iff_iff,letterB_iff];simp;omega),rfl⟩
theorem isDigit_any (c:Nat) (w:World):Calls Tryz.prog 219 #[.int .u8 (c:Int)] w fun e w'=>e=.returned (.bool (digitB c))∧w=w':=by
  have hc:(48≤c∧c≤57) ∨ c<48 ∨ 57<c:=by omega
  rcases hc with ⟨h1,h2⟩ | h1 | h1
  all_goals
    go_enter Tryz.func219,Tryz.ntmps219
    go_wp2
    all_goals
      go_ret
      exact ⟨ret_bool (by rw [Bool.eq_iff_iff,digitB_iff];simp;omega),rfl⟩
theorem isBlank_any (c:Nat) (w:World):Calls Tryz.prog 255 #[.int .u8 (c:Int)] w fun e w'=>e=.returned (.bool (blankB c))∧w=w':=by
  go_enter Tryz.func255,Tryz.ntmps255
  go_wp2
  all_goals
    go_ret
    exact ⟨ret_bool (by rw [Bool.eq_iff_iff,blankB_iff];simp;omega),rfl⟩
theorem isInLine_any (c:Nat) (w:World):Calls Tryz.prog 254 #[.int .u8 (c:Int)] w fun e w'=>e=.returned (.bool (inC c))∧w=w':=by
  go_enter Tryz.func254,Tryz.ntmps254
  go_wp2
  go_ret
  exact ⟨ret_bool (by rw [Bool.eq_iff_iff];simp [inC];omega),rfl⟩
theorem isOfName_any (c:Nat) (w:World):Calls Tryz.prog 218 #[.int .u8 (c:Int)] w fun e w'=>e=.returned (.bool (nameB c))∧w=w':=by
  cases h:letterB c
  · have h1:=h ▸ isLetter_any c w
    go_enter Tryz.func218,Tryz.ntmps218
    go_wp2_with (first | (go_at_call 215;refine h1.mono ?_;rintro e w' ⟨rfl,rfl⟩) | (go_at_call 219;refine (isDigit_any c _).mono ?_;rintro e w' ⟨rfl,rfl⟩))
    go_ret
    exact ⟨ret_bool (by simp [nameB,h]),rfl⟩
  · have h1:=h ▸ isLetter_any c w
    go_enter Tryz.func218,Tryz.ntmps218
    go_wp2_with (first | (go_at_call 215;refine h1.mono ?_;rintro e w' ⟨rfl,rfl⟩) | (go_at_call 219;refine (isDigit_any c _).mono ?_;rintro e w' ⟨rfl,rfl⟩))
    go_ret
    exact ⟨ret_bool (by simp [nameB,h]),rfl⟩
end Go.Proofs.YtpcniebkabkikaaGreatDoor
namespace Go.Proofs.YtpcniebkabkikaaGreatDoor
open Go Go.RowKit
def bl (s:ByteArray):List Nat:=s.data.toList.map UInt8.toNat
theorem bl_length (s:ByteArray):(bl s).length=s.size:=by simp [bl]
theorem bl_get (s:ByteArray) (i:Nat) (h:i<s.size):(bl s)[i]?=some (s[i]).toNat:=by
  have h':i<s.data.toList.length:=by simpa using h
  rw [bl,List.getElem?_map,List.getElem?_eq_getElem h'];rfl
theorem bl_extract (s:ByteArray) (a b:Nat):bl (s.extract a b)=((bl s).take b).drop a:=by
  unfold bl
  rw [ByteArray.data_extract,Array.toList_extract,List.extract_eq_take_drop,List.map_take,List.map_drop,List.drop_take]
theorem bl_inj {s t:ByteArray} (h:bl s=bl t):s=t:=by
  unfold bl at h
  have:s.data.toList=t.data.toList:=(List.map_inj_right (fun a b h=>UInt8.toNat_inj.1 h)).1 h
  apply ByteArray.ext
  exact Array.ext' this
theorem run_step {p:Nat→Bool} (l:List Nat) (k:Nat) (h:∀ x ∈ l.take k,p x=true) (c:Nat) (hc:l[k]?=some c) (hp:p c=true):∀ x ∈ l.take (k+1),p x=true:=by
  rw [List.take_add_one,hc]
  intro x hx
  rcases List.mem_append.1 hx with h1 | h1
  · exact h x h1
  · obtain rfl:x=c:=by simpa using h1
    exact hp
theorem run_stop {p:Nat→Bool} (l:List Nat) (k:Nat) (h:∀ x ∈ l.take k,p x=true) (c:Nat) (hc:l[k]?=some c) (hp:p c=false):(l.takeWhile p).length=k:=by
  have hk:k<l.length:=(List.getElem?_eq_some_iff.1 hc).1
  have h2:l=l.take k++l.drop k:=(List.take_append_drop k l).symm
  have hd:(l.drop k).head?=some c:=by rw [List.head?_drop];exact hc
  rw [h2, takeWhile_stop _ _ h (fun d hd' => by rw [hd] at hd'; obtain rfl : c = d := by simpa using hd'
                                                exact hp),List.length_take]
  omega
theorem run_end {p:Nat→Bool} (l:List Nat) (h:∀ x ∈ l.take l.length,p x=true):(l.takeWhile p).length=l.length:=by
  rw [List.take_length] at h
  have:=takeWhile_stop l [] h (by simp)
  rw [List.append_nil] at this
  rw [this]
set_option maxHeartbeats 400000 in
theorem run_name (s:ByteArray) (hs:s.size≤9223372036854775806) (w:World) :
    Calls Tryz.prog 217 #[.string s,.func (.func 218) #[] #[]] w fun e w'=>e=.returned (.int .i64 ((((bl s).takeWhile nameB).length:Nat):Int))∧w=w':=by
  go_enter Tryz.func217,Tryz.ntmps217
  go_wp2
  go_loop [8] (fun i=>∃ k:Nat,k≤s.size∧i=.int .i64 k∧Hid (∀ x ∈ (bl s).take k,nameB x=true)) (fun i=>s.size - (intOf i).toNat)
  case atStart=>exact ⟨0,Nat.zero_le _,rfl,Lib.hid (by simp)⟩
  case round =>
    obtain ⟨k,hk,rfl,H⟩:=hrel
    by_cases hlt:k<s.size
    · have hb:=Lib.hid (bl_get s k hlt)
      cases hp:nameB (s[k]).toNat
      · have hcall:=hp ▸ isOfName_any (s[k]).toNat w
        have HP:=Lib.hid hp
        clear hp
        go_wp2_with (go_at_call 218;refine hcall.mono ?_;rintro e w' ⟨rfl,rfl⟩)
        go_ret
        exact ⟨ret_int (by rw [run_stop _ k H.out _ hb.out HP.out]),rfl⟩
      · have hcall:=hp ▸ isOfName_any (s[k]).toNat w
        have HP:=Lib.hid hp
        clear hp
        go_wp2_with (go_at_call 218;refine hcall.mono ?_;rintro e w' ⟨rfl,rfl⟩)
        go_round
        case rel=>exact ⟨k+1,by omega,by go_num,Lib.hid (run_step _ k H.out _ hb.out HP.out)⟩
        case measure=>simp [intOf];omega
    · have hk':k=(bl s).length:=by rw [bl_length];omega
      have HK:=Lib.hid hk'
      clear hk'
      go_wp2
      go_ret
      exact ⟨ret_int (by rw [run_end _ (HK.out ▸ H.out),bl_length]),rfl⟩
set_option maxHeartbeats 400000 in
theorem run_digit (s:ByteArray) (hs:s.size≤9223372036854775806) (w:World) :
    Calls Tryz.prog 217 #[.string s,.func (.func 219) #[] #[]] w fun e w'=>e=.returned (.int .i64 ((((bl s).takeWhile digitB).length:Nat):Int))∧w=w':=by
  go_enter Tryz.func217,Tryz.ntmps217
  go_wp2
  go_loop [8] (fun i=>∃ k:Nat,k≤s.size∧i=.int .i64 k∧Hid (∀ x ∈ (bl s).take k,digitB x=true)) (fun i=>s.size - (intOf i).toNat)
  case atStart=>exact ⟨0,Nat.zero_le _,rfl,Lib.hid (by simp)⟩
  case round =>
    obtain ⟨k,hk,rfl,H⟩:=hrel
    by_cases hlt:k<s.size
    · have hb:=Lib.hid (bl_get s k hlt)
      cases hp:digitB (s[k]).toNat
      · have hcall:=hp ▸ isDigit_any (s[k]).toNat w
        have HP:=Lib.hid hp
        clear hp
        go_wp2_with (go_at_call 219;refine hcall.mono ?_;rintro e w' ⟨rfl,rfl⟩)
        go_ret
        exact ⟨ret_int (by rw [run_stop _ k H.out _ hb.out HP.out]),rfl⟩
      · have hcall:=hp ▸ isDigit_any (s[k]).toNat w
        have HP:=Lib.hid hp
        clear hp
        go_wp2_with (go_at_call 219;refine hcall.mono ?_;rintro e w' ⟨rfl,rfl⟩)
        go_round
        case rel=>exact ⟨k+1,by omega,by go_num,Lib.hid (run_step _ k H.out _ hb.out HP.out)⟩
        case measure=>simp [intOf];omega
    · have hk':k=(bl s).length:=by rw [bl_length];omega
      have HK:=Lib.hid hk'
      clear hk'
      go_wp2
      go_ret
      exact ⟨ret_int (by rw [run_end _ (HK.out ▸ H.out),bl_length]),rfl⟩
set_option maxHeartbeats 400000 in
theorem run_line (s:ByteArray) (hs:s.size≤9223372036854775806) (w:World) :
    Calls Tryz.prog 217 #[.string s,.func (.func 254) #[] #[]] w fun e w'=>e=.returned (.int .i64 ((((bl s).takeWhile inC).length:Nat):Int))∧w=w':=by
  go_enter Tryz.func217,Tryz.ntmps217
  go_wp2
  go_loop [8] (fun i=>∃ k:Nat,k≤s.size∧i=.int .i64 k∧Hid (∀ x ∈ (bl s).take k,inC x=true)) (fun i=>s.size - (intOf i).toNat)
  case atStart=>exact ⟨0,Nat.zero_le _,rfl,Lib.hid (by simp)⟩
  case round =>
    obtain ⟨k,hk,rfl,H⟩:=hrel
    by_cases hlt:k<s.size
    · have hb:=Lib.hid (bl_get s k hlt)
      cases hp:inC (s[k]).toNat
      · have hcall:=hp ▸ isInLine_any (s[k]).toNat w
        have HP:=Lib.hid hp
        clear hp
        go_wp2_with (go_at_call 254;refine hcall.mono ?_;rintro e w' ⟨rfl,rfl⟩)
        go_ret
        exact ⟨ret_int (by rw [run_stop _ k H.out _ hb.out HP.out]),rfl⟩
      · have hcall:=hp ▸ isInLine_any (s[k]).toNat w
        have HP:=Lib.hid hp
        clear hp
        go_wp2_with (go_at_call 254;refine hcall.mono ?_;rintro e w' ⟨rfl,rfl⟩)
        go_round
        case rel=>exact ⟨k+1,by omega,by go_num,Lib.hid (run_step _ k H.out _ hb.out HP.out)⟩
        case measure=>simp [intOf];omega
    · have hk':k=(bl s).length:=by rw [bl_length];omega
      have HK:=Lib.hid hk'
      clear hk'
      go_wp2
      go_ret
      exact ⟨ret_int (by rw [run_end _ (HK.out ▸ H.out),bl_length]),rfl⟩
set_option maxHeartbeats 400000 in
theorem run_blank (s:ByteArray) (hs:s.size≤9223372036854775806) (w:World) :
    Calls Tryz.prog 217 #[.string s,.func (.func 255) #[] #[]] w fun e w'=>e=.returned (.int .i64 ((((bl s).takeWhile blankB).length:Nat):Int))∧w=w':=by
  go_enter Tryz.func217,Tryz.ntmps217
  go_wp2
  go_loop [8] (fun i=>∃ k:Nat,k≤s.size∧i=.int .i64 k∧Hid (∀ x ∈ (bl s).take k,blankB x=true)) (fun i=>s.size - (intOf i).toNat)
  case atStart=>exact ⟨0,Nat.zero_le _,rfl,Lib.hid (by simp)⟩
  case round =>
    obtain ⟨k,hk,rfl,H⟩:=hrel
    by_cases hlt:k<s.size
    · have hb:=Lib.hid (bl_get s k hlt)
      cases hp:blankB (s[k]).toNat
      · have hcall:=hp ▸ isBlank_any (s[k]).toNat w
        have HP:=Lib.hid hp
        clear hp
        go_wp2_with (go_at_call 255;refine hcall.mono ?_;rintro e w' ⟨rfl,rfl⟩)
        go_ret
        exact ⟨ret_int (by rw [run_stop _ k H.out _ hb.out HP.out]),rfl⟩
      · have hcall:=hp ▸ isBlank_any (s[k]).toNat w
        have HP:=Lib.hid hp
        clear hp
        go_wp2_with (go_at_call 255;refine hcall.mono ?_;rintro e w' ⟨rfl,rfl⟩)
        go_round
        case rel=>exact ⟨k+1,by omega,by go_num,Lib.hid (run_step _ k H.out _ hb.out HP.out)⟩
        case measure=>simp [intOf];omega
    · have hk':k=(bl s).length:=by rw [bl_length];omega
      have HK:=Lib.hid hk'
      clear hk'
      go_wp2
      go_ret
      exact ⟨ret_int (by rw [run_end _ (HK.out ▸ H.out),bl_length]),rfl⟩
theorem gap_any (s:ByteArray) (h0:0<s.size) (hs:s.size≤9223372036854775806) (w:World) :
    Calls Tryz.prog 223 #[.string s] w fun e w'=>e=.returned (.int .i64 ((gapL (bl s):Nat):Int))∧w=w':=by
  have hg:=bl_get s 0 h0
  rw [← List.head?_eq_getElem?] at hg
  have h1:=run_line s hs w
  have h2:=run_blank s hs w
  by_cases hc:(s[0]).toNat=35
  · have hn:(((s[0]).toNat:Int) == 35)=true:=by simp;omega
    have hgl:gapL (bl s)=((bl s).takeWhile inC).length:=by rw [gapL,hg,if_pos (by rw [hc])]
    have HG:=Lib.hid hgl
    clear hgl hg hc
    go_enter Tryz.func223,Tryz.ntmps223
    go_wp2_with (go_at_call 217;refine h1.mono ?_;rintro e w' ⟨rfl,rfl⟩)
    go_ret
    exact ⟨ret_int (by rw [HG.out]),rfl⟩
  · have hn:(((s[0]).toNat:Int) == 35)=false:=by simp;omega
    have hgl:gapL (bl s)=((bl s).takeWhile blankB).length:=by rw [gapL,hg,if_neg (by simpa using hc)]
    have HG:=Lib.hid hgl
    clear hgl hg hc
    go_enter Tryz.func223,Tryz.ntmps223
    go_wp2_with (go_at_call 217;refine h2.mono ?_;rintro e w' ⟨rfl,rfl⟩)
    go_ret
    exact ⟨ret_int (by rw [HG.out]),rfl⟩
end Go.Proofs.YtpcniebkabkikaaGreatDoor
namespace Go.Proofs.YtpcniebkabkikaaGreatDoor
open Go Go.RowKit
def marksL:List (List Nat):=mark1.map (fun c=>[c])++mark2
theorem ne_lit {s:ByteArray} {L:List (List Nat)} {u:List UInt8} (h:bl s ∉ L) (hu:u.map UInt8.toNat ∈ L):(s.toList == u)=false:=by
  rw [beq_eq_false_iff_ne]
  intro e
  rw [Lib.toList_data] at e
  exact h (by unfold bl;rw [e];exact hu)
set_option maxRecDepth 100000 in
set_option maxHeartbeats 1000000 in
theorem isKeyword_no (s:ByteArray) (h:bl s ∉ keysL) (w:World):Calls Tryz.prog 251 #[.string s] w fun e w'=>e=.returned (.bool false)∧w=w':=by
  have e0:(s.toList == [112,114,105,110,99,105,112,97,108])=false:=ne_lit h (by decide)
  have e1:(s.toList == [103,108,111,98,97,108])=false:=ne_lit h (by decide)
  have e2:(s.toList == [97,114,114,97,121])=false:=ne_lit h (by decide)
  have e3:(s.toList == [99,104,97,110,110,101,108])=false:=ne_lit h (by decide)
  have e4:(s.toList == [102,117,110,99])=false:=ne_lit h (by decide)
  have e5:(s.toList == [118,97,114])=false:=ne_lit h (by decide)
  have e6:(s.toList == [105,102])=false:=ne_lit h (by decide)
  have e7:(s.toList == [101,108,115,101])=false:=ne_lit h (by decide)
  have e8:(s.toList == [119,104,105,108,101])=false:=ne_lit h (by decide)
  have e9:(s.toList == [115,101,110,100])=false:=ne_lit h (by decide)
  have e10:(s.toList == [114,101,116,117,114,110])=false:=ne_lit h (by decide)
  clear h
  go_enter Tryz.func251,Tryz.ntmps251
  go_wp2
  go_ret
  exact ⟨rfl,rfl⟩
set_option maxRecDepth 100000 in
set_option maxHeartbeats 1000000 in
theorem isKeyword_yes (s:ByteArray) (h:bl s ∈ keysL) (w:World):Calls Tryz.prog 251 #[.string s] w fun e w'=>e=.returned (.bool true)∧w=w':=by
  simp only [keysL,List.mem_cons,List.not_mem_nil,or_false] at h
  rcases h with h | h | h | h | h | h | h | h | h | h | h
  · obtain rfl:s=⟨#[112,114,105,110,99,105,112,97,108]⟩:=bl_inj (h.trans (by decide))
    clear h
    go_enter Tryz.func251,Tryz.ntmps251
    go_wp2
    go_ret
    exact ⟨rfl,rfl⟩
  · obtain rfl:s=⟨#[103,108,111,98,97,108]⟩:=bl_inj (h.trans (by decide))
    clear h
    go_enter Tryz.func251,Tryz.ntmps251
    go_wp2
    go_ret
    exact ⟨rfl,rfl⟩
  · obtain rfl:s=⟨#[97,114,114,97,121]⟩:=bl_inj (h.trans (by decide))
    clear h
    go_enter Tryz.func251,Tryz.ntmps251
    go_wp2
    go_ret
    exact ⟨rfl,rfl⟩
  · obtain rfl:s=⟨#[99,104,97,110,110,101,108]⟩:=bl_inj (h.trans (by decide))
    clear h
    go_enter Tryz.func251,Tryz.ntmps251
    go_wp2
    go_ret
    exact ⟨rfl,rfl⟩
  · obtain rfl:s=⟨#[102,117,110,99]⟩:=bl_inj (h.trans (by decide))
    clear h
    go_enter Tryz.func251,Tryz.ntmps251
    go_wp2
    go_ret
    exact ⟨rfl,rfl⟩
  · obtain rfl:s=⟨#[118,97,114]⟩:=bl_inj (h.trans (by decide))
    clear h
    go_enter Tryz.func251,Tryz.ntmps251
    go_wp2
    go_ret
    exact ⟨rfl,rfl⟩
  · obtain rfl:s=⟨#[105,102]⟩:=bl_inj (h.trans (by decide))
    clear h
    go_enter Tryz.func251,Tryz.ntmps251
    go_wp2
    go_ret
    exact ⟨rfl,rfl⟩
  · obtain rfl:s=⟨#[101,108,115,101]⟩:=bl_inj (h.trans (by decide))
    clear h
    go_enter Tryz.func251,Tryz.ntmps251
    go_wp2
    go_ret
    exact ⟨rfl,rfl⟩
  · obtain rfl:s=⟨#[119,104,105,108,101]⟩:=bl_inj (h.trans (by decide))
    clear h
    go_enter Tryz.func251,Tryz.ntmps251
    go_wp2
    go_ret
    exact ⟨rfl,rfl⟩
  · obtain rfl:s=⟨#[115,101,110,100]⟩:=bl_inj (h.trans (by decide))
    clear h
    go_enter Tryz.func251,Tryz.ntmps251
    go_wp2
    go_ret
    exact ⟨rfl,rfl⟩
  · obtain rfl:s=⟨#[114,101,116,117,114,110]⟩:=bl_inj (h.trans (by decide))
    clear h
    go_enter Tryz.func251,Tryz.ntmps251
    go_wp2
    go_ret
    exact ⟨rfl,rfl⟩
set_option maxRecDepth 100000 in
set_option maxHeartbeats 1000000 in
theorem isMark_no (s:ByteArray) (h:bl s ∉ marksL) (w:World):Calls Tryz.prog 253 #[.string s] w fun e w'=>e=.returned (.bool false)∧w=w':=by
  have e0:(s.toList == [123])=false:=ne_lit h (by decide)
  have e1:(s.toList == [125])=false:=ne_lit h (by decide)
  have e2:(s.toList == [40])=false:=ne_lit h (by decide)
  have e3:(s.toList == [41])=false:=ne_lit h (by decide)
  have e4:(s.toList == [91])=false:=ne_lit h (by decide)
  have e5:(s.toList == [93])=false:=ne_lit h (by decide)
  have e6:(s.toList == [44])=false:=ne_lit h (by decide)
  have e7:(s.toList == [59])=false:=ne_lit h (by decide)
  have e8:(s.toList == [61])=false:=ne_lit h (by decide)
  have e9:(s.toList == [61,61])=false:=ne_lit h (by decide)
  have e10:(s.toList == [33,61])=false:=ne_lit h (by decide)
  have e11:(s.toList == [60])=false:=ne_lit h (by decide)
  have e12:(s.toList == [60,61])=false:=ne_lit h (by decide)
  have e13:(s.toList == [43])=false:=ne_lit h (by decide)
  have e14:(s.toList == [45])=false:=ne_lit h (by decide)
  have e15:(s.toList == [42])=false:=ne_lit h (by decide)
  have e16:(s.toList == [47])=false:=ne_lit h (by decide)
  have e17:(s.toList == [37])=false:=ne_lit h (by decide)
  have e18:(s.toList == [38])=false:=ne_lit h (by decide)
  have e19:(s.toList == [124])=false:=ne_lit h (by decide)
  have e20:(s.toList == [94])=false:=ne_lit h (by decide)
  have e21:(s.toList == [60,60])=false:=ne_lit h (by decide)
  have e22:(s.toList == [62,62])=false:=ne_lit h (by decide)
  have e23:(s.toList == [33])=false:=ne_lit h (by decide)
  have e24:(s.toList == [126])=false:=ne_lit h (by decide)
  clear h
  go_enter Tryz.func253,Tryz.ntmps253
  go_wp2
  go_ret
  exact ⟨rfl,rfl⟩
set_option maxRecDepth 100000 in
set_option maxHeartbeats 1000000 in
theorem isMark_yes (s:ByteArray) (h:bl s ∈ marksL) (w:World):Calls Tryz.prog 253 #[.string s] w fun e w'=>e=.returned (.bool true)∧w=w':=by
  simp only [marksL,mark1,mark2,List.map_cons,List.map_nil,List.cons_append,List.nil_append,List.mem_cons,List.not_mem_nil,or_false] at h
  rcases h with h | h | h | h | h | h | h | h | h | h | h | h | h | h | h | h | h | h | h | h | h | h | h | h | h
  · obtain rfl:s=⟨#[123]⟩:=bl_inj (h.trans (by decide))
    clear h
    go_enter Tryz.func253,Tryz.ntmps253
    go_wp2
    go_ret
    exact ⟨rfl,rfl⟩
  · obtain rfl:s=⟨#[125]⟩:=bl_inj (h.trans (by decide))
    clear h
    go_enter Tryz.func253,Tryz.ntmps253
    go_wp2
    go_ret
    exact ⟨rfl,rfl⟩
  · obtain rfl:s=⟨#[40]⟩:=bl_inj (h.trans (by decide))
    clear h
    go_enter Tryz.func253,Tryz.ntmps253
    go_wp2
    go_ret
    exact ⟨rfl,rfl⟩
  · obtain rfl:s=⟨#[41]⟩:=bl_inj (h.trans (by decide))
    clear h
    go_enter Tryz.func253,Tryz.ntmps253
    go_wp2
    go_ret
    exact ⟨rfl,rfl⟩
  · obtain rfl:s=⟨#[91]⟩:=bl_inj (h.trans (by decide))
    clear h
    go_enter Tryz.func253,Tryz.ntmps253
    go_wp2
    go_ret
    exact ⟨rfl,rfl⟩
  · obtain rfl:s=⟨#[93]⟩:=bl_inj (h.trans (by decide))
    clear h
    go_enter Tryz.func253,Tryz.ntmps253
    go_wp2
    go_ret
    exact ⟨rfl,rfl⟩
  · obtain rfl:s=⟨#[44]⟩:=bl_inj (h.trans (by decide))
    clear h
    go_enter Tryz.func253,Tryz.ntmps253
    go_wp2
    go_ret
    exact ⟨rfl,rfl⟩
  · obtain rfl:s=⟨#[59]⟩:=bl_inj (h.trans (by decide))
    clear h
    go_enter Tryz.func253,Tryz.ntmps253
    go_wp2
    go_ret
    exact ⟨rfl,rfl⟩
  · obtain rfl:s=⟨#[61]⟩:=bl_inj (h.trans (by decide))
    clear h
    go_enter Tryz.func253,Tryz.ntmps253
    go_wp2
    go_ret
    exact ⟨rfl,rfl⟩
  · obtain rfl:s=⟨#[60]⟩:=bl_inj (h.trans (by decide))
    clear h
    go_enter Tryz.func253,Tryz.ntmps253
    go_wp2
    go_ret
    exact ⟨rfl,rfl⟩
  · obtain rfl:s=⟨#[43]⟩:=bl_inj (h.trans (by decide))
    clear h
    go_enter Tryz.func253,Tryz.ntmps253
    go_wp2
    go_ret
    exact ⟨rfl,rfl⟩
  · obtain rfl:s=⟨#[45]⟩:=bl_inj (h.trans (by decide))
    clear h
    go_enter Tryz.func253,Tryz.ntmps253
    go_wp2
    go_ret
    exact ⟨rfl,rfl⟩
  · obtain rfl:s=⟨#[42]⟩:=bl_inj (h.trans (by decide))
    clear h
    go_enter Tryz.func253,Tryz.ntmps253
    go_wp2
    go_ret
    exact ⟨rfl,rfl⟩
  · obtain rfl:s=⟨#[47]⟩:=bl_inj (h.trans (by decide))
    clear h
    go_enter Tryz.func253,Tryz.ntmps253
    go_wp2
    go_ret
    exact ⟨rfl,rfl⟩
  · obtain rfl:s=⟨#[37]⟩:=bl_inj (h.trans (by decide))
    clear h
    go_enter Tryz.func253,Tryz.ntmps253
    go_wp2
    go_ret
    exact ⟨rfl,rfl⟩
  · obtain rfl:s=⟨#[38]⟩:=bl_inj (h.trans (by decide))
    clear h
    go_enter Tryz.func253,Tryz.ntmps253
    go_wp2
    go_ret
    exact ⟨rfl,rfl⟩
  · obtain rfl:s=⟨#[124]⟩:=bl_inj (h.trans (by decide))
    clear h
    go_enter Tryz.func253,Tryz.ntmps253
    go_wp2
    go_ret
    exact ⟨rfl,rfl⟩
  · obtain rfl:s=⟨#[94]⟩:=bl_inj (h.trans (by decide))
    clear h
    go_enter Tryz.func253,Tryz.ntmps253
    go_wp2
    go_ret
    exact ⟨rfl,rfl⟩
  · obtain rfl:s=⟨#[33]⟩:=bl_inj (h.trans (by decide))
    clear h
    go_enter Tryz.func253,Tryz.ntmps253
    go_wp2
    go_ret
    exact ⟨rfl,rfl⟩
  · obtain rfl:s=⟨#[126]⟩:=bl_inj (h.trans (by decide))
    clear h
    go_enter Tryz.func253,Tryz.ntmps253
    go_wp2
    go_ret
    exact ⟨rfl,rfl⟩
  · obtain rfl:s=⟨#[61,61]⟩:=bl_inj (h.trans (by decide))
    clear h
    go_enter Tryz.func253,Tryz.ntmps253
    go_wp2
    go_ret
    exact ⟨rfl,rfl⟩
  · obtain rfl:s=⟨#[33,61]⟩:=bl_inj (h.trans (by decide))
    clear h
    go_enter Tryz.func253,Tryz.ntmps253
    go_wp2
    go_ret
    exact ⟨rfl,rfl⟩
  · obtain rfl:s=⟨#[60,61]⟩:=bl_inj (h.trans (by decide))
    clear h
    go_enter Tryz.func253,Tryz.ntmps253
    go_wp2
    go_ret
    exact ⟨rfl,rfl⟩
  · obtain rfl:s=⟨#[60,60]⟩:=bl_inj (h.trans (by decide))
    clear h
    go_enter Tryz.func253,Tryz.ntmps253
    go_wp2
    go_ret
    exact ⟨rfl,rfl⟩
  · obtain rfl:s=⟨#[62,62]⟩:=bl_inj (h.trans (by decide))
    clear h
    go_enter Tryz.func253,Tryz.ntmps253
    go_wp2
    go_ret
    exact ⟨rfl,rfl⟩
end Go.Proofs.YtpcniebkabkikaaGreatDoor
namespace Go.Proofs.YtpcniebkabkikaaGreatDoor
open Go
theorem foldl_bl (l:List UInt8) (acc:Nat):(l.map UInt8.toNat).foldl (fun n d=>10 * n+(d - 48)) acc=l.foldl (fun n c=>10 * n+(c.toNat - 48)) acc:=by
  rw [List.foldl_map]
theorem foldl_ge8 (l:List UInt8) (n:Nat):n≤l.foldl (fun n c=>10 * n+(c.toNat - 48)) n:=by
  rw [← foldl_bl];exact foldl_ge _ _
theorem parseM_digits:∀ (l:List UInt8) (acc:Nat),(∀ c ∈ l,48≤c.toNat∧c.toNat≤57)→acc≤18446744073709551615 →
    Lib.parseUintM 18446744073709551615 acc l=if l.foldl (fun n c=>10 * n+(c.toNat - 48)) acc≤18446744073709551615 then .ok (l.foldl (fun n c=>10 * n+(c.toNat - 48)) acc) else .range
  | [],acc,_,h=>by rw [Lib.parseUintM,List.foldl_nil,if_pos h]
  | c :: r,acc,hd,h=>by
    have hc:=hd c (List.mem_cons_self ..)
    have hg:=foldl_ge8 r (10 * acc+(c.toNat - 48))
    rw [Lib.parseUintM,if_pos hc,List.foldl_cons]
    by_cases h1:1844674407370955162≤acc
    · rw [if_pos h1,if_neg (by omega)]
    · rw [if_neg h1]
      by_cases h2:18446744073709551615<acc * 10+(c.toNat - 48)
      · rw [if_pos h2,if_neg (by omega)]
      · rw [if_neg h2,Nat.mul_comm acc 10,parseM_digits r _ (fun x hx=>hd x (List.mem_cons_of_mem _ hx)) (by omega)]
theorem parse_digits (l:List UInt8) (h0:l ≠ []) (hd:∀ x ∈ l.map UInt8.toNat,digitB x=true) :
    Lib.parseIntB 64 l=if valD (l.map UInt8.toNat)≤most then .ok (valD (l.map UInt8.toNat):Nat) else .range:=by
  have hd':∀ c ∈ l,48≤c.toNat∧c.toNat≤57:=fun c hc=>digit_range (hd _ (List.mem_map_of_mem hc))
  have hm:=parseM_digits l 0 hd' (by omega)
  rw [← foldl_bl] at hm
  change _=if valD (l.map UInt8.toNat)≤_ then Lib.NumEnd.ok (valD (l.map UInt8.toNat)) else _ at hm
  cases l with
  | nil=>exact absurd rfl h0
  | cons c r =>
    have hc:=hd' c (List.mem_cons_self ..)
    rw [Lib.parseIntB]
    simp only [show ¬ c.toNat=43 by omega,show ¬ c.toNat=45 by omega,or_false,if_false,not_false_eq_true,true_and,false_and]
    rw [Lib.parseUintB,if_neg (by simp),show (2 ^ 64 - 1:Nat)=18446744073709551615 by decide,hm]
    generalize valD ((c :: r).map UInt8.toNat)=V
    by_cases h1:V≤18446744073709551615
    · rw [if_pos h1]
      by_cases h2:V≤most
      · simp only [if_pos h2,show ¬ 2 ^ (64 - 1)≤V by simp only [most] at h2;omega,if_false]
      · simp only [if_neg h2,show 2 ^ (64 - 1)≤V by simp only [most] at h2;omega,if_true]
    · rw [if_neg h1,if_neg (by simp only [most];omega)]
end Go.Proofs.YtpcniebkabkikaaGreatDoor
