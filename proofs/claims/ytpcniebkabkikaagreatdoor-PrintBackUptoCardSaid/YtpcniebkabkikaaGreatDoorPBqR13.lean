/- A part of the proof of PrintBack: contracts and plain facts. -/
import Derived.Test.YtpcniebkabkikaaGreatDoorPBqR12
import Derived.Test.YtpcniebkabkikaaGreatDoorPBqR6
import Derived.Test.YtpcniebkabkikaaGreatDoorPBqR9
import Derived.Deep.QuietTactic
import Derived.Deep.RegionWith
import Derived.Deep.RegionHeldLaw
import Derived.Laws.BitsLemmas
set_option maxRecDepth 100000
set_option maxHeartbeats 8000000
open Go.Lib (hid)
open Go.Proofs.Tryz
open List renaming append_assoc → nlb, append_nil → nlf, map_append → nlh
open Go.World renaming alloc_heap_new → nwn
namespace Go.Proofs.YtpcniebkabkikaaGreatDoor
open Go
open Go.Proofs.Syn (K Ex Tm opLv opMark unMark b1_)
theorem e7_ {l:List Nat} (h:∀c∈l,c<256):bl (sb l)=l:=by
 unfold bl sb
 show (l.map UInt8.ofNat).map UInt8.toNat=l
 rw [List.map_map]
 refine (List.map_congr_left fun c hc=>?_).trans (List.map_id l)
 show (UInt8.ofNat c).toNat=c
 rw [UInt8.toNat_ofNat']
 have:=h c hc
 omega
theorem name_lt {c:Nat} (h:nameB c=true):c<256:=by
 unfold nameB letterB digitB at h
 simp only [Bool.or_eq_true,Bool.and_eq_true,decide_eq_true_eq,beq_iff_eq] at h
 omega
theorem eb_ {s:List Nat} (h:PN s):∀c∈s,c<256:=by
 have hw:=h.word
 cases s with
 | nil=>exact fun _ h=>absurd h (by simp)
 | cons x t =>
  by_cases hl:letterB x=true
  ·rw [wordL,if_pos hl] at hw
   simp only at hw
   injection hw with h1 _
   have hall:(x::t).takeWhile nameB=x::t:=by
    have:=as_ (p:=nameB) (x::t)
    rw [h1,List.take_length] at this
    exact this.symm
   exact fun c hc=>name_lt (bd_ (x::t) c (by rw [hall];exact hc))
  ·rw [wordL,if_neg hl] at hw
   split at hw
   ·injection hw with _ h2;cases h2
   ·split at hw
    ·injection hw with _ h2;cases h2
    ·split at hw
     ·injection hw with _ h2;cases h2
     ·injection hw with _ h2;cases h2
theorem dgN_lt (v:Nat):∀c∈dgN v,c<256:=fun c hc=>by have:=dr_ ((mb_ v v (Nat.le_refl _)).1 c hc);omega
theorem sx_:∀o:Fin 18,(∀c∈opMark o.val,c<256)∧∀c∈unMark o.val,c<256:=by decide
theorem ec_:∀(e:Ex) (lv:Nat),e.Wf→e.All PN (QN dgN)→∀c∈exText dgN e lv,c<256
 | .num v,lv,_,h=>fun c hc=>dgN_lt v c (by simpa [exText] using hc)
 | .nm s,lv,_,h=>fun c hc=>eb_ h c (by simpa [exText] using hc)
 | .idx s e,lv,hw,h=>fun c hc=>by
  have h2:=ec_ e 0 hw h.2
  have h1:=eb_ h.1
  simp only [exText,List.mem_append,List.mem_cons,List.not_mem_nil,or_false] at hc
  rcases hc with hc|hc|hc|hc
  ·exact h1 c hc
  ·omega
  ·exact h2 c hc
  ·omega
 | .un o e,lv,hw,h=>fun c hc=>by
  have h1:=(sx_ ⟨o,by have:=hw.2.1;omega⟩).2
  have h2:=ec_ e 6 hw.2.2 h
  simp only [exText,List.mem_append] at hc
  rcases hc with hc|hc
  ·exact h1 c hc
  ·exact h2 c hc
 | .bin o l r,lv,hw,h=>fun c hc=>by
  have h1:=(sx_ ⟨o,by have:=hw.2.1;omega⟩).1
  have h2:=ec_ l (opLv o) hw.2.2.1 h.1
  have h3:=ec_ r (opLv o+1) hw.2.2.2 h.2
  rw [exText] at hc
  split at hc <;> simp only [List.mem_append,List.mem_cons,List.not_mem_nil,or_false] at hc
  ·rcases hc with hc|(hc|hc|hc|hc|hc)|hc <;> first|omega|exact h1 c hc|exact h2 c hc|exact h3 c hc
  ·rcases hc with hc|hc|hc|hc|hc <;> first|omega|exact h1 c hc|exact h2 c hc|exact h3 c hc
theorem exZ_lt {l:List TmZ} (hv:∀t∈l,t.value≤9223372036854775807):∀c∈exZ l,c<256:=by
 unfold exZ
 split
 ·rename_i hw
  obtain ⟨e,⟨a,b⟩,_,d,_⟩:=g5_ hw hv
  rw [d]
  exact ec_ e 0 a b
 ·exact fun _ h=>absurd h (by simp)
theorem gh_:∀(f:Nat) (row:List Pt) (rl:List Tm) (out Q:List (List Nat)),runB dgN f row rl out=some Q→(∀p∈row,p.1.length≤1000)→(∀t∈rl,∀p∈ptsOf dgN t,p.1.length≤1000)→(∀s∈out,s.length≤1000)→∀s∈Q,s.length≤1000
 | 0,_,_,_,_,h,_,_,_=>by cases h
 | f+1,[],_,out,Q,h,_,_,ho=>by
  have h:some out=some Q:=h
  injection h with h;subst h;exact ho
 | f+1,p::row,rl,out,Q,h,hr,ht,ho=>by
  have hr2:∀p∈row,p.1.length≤1000:=fun x hx=>hr x (List.mem_cons_of_mem _ hx)
  by_cases hp:p.1=[]
  ·cases rl with
   | nil =>
    have h0:runB dgN (f+1) (p::row) [] out=none:=by
     show (if p.1≠[] then _ else _)=_
     rw [if_neg (by simp [hp])]
    rw [h0] at h;cases h
   | cons t rl =>
    have h1:runB dgN f ((brT dgN p.2 t).reverse++row) rl out=some Q:=by
     rw [←h]
     show _=(if p.1≠[] then _ else _)
     rw [if_neg (by simp [hp])]
    refine gh_ f _ rl out Q h1 (fun x hx=>?_) (fun t' h'=>ht t' (List.mem_cons_of_mem _ h')) ho
    rcases List.mem_append.1 hx with hx|hx
    ·have hx:=List.mem_reverse.1 hx
     have hpt:=ht t (List.mem_cons_self ..)
     unfold brT at hx
     split at hx
     ·exact hpt x hx
     ·rcases List.mem_cons.1 hx with rfl|hx
      ·simp
      ·rcases List.mem_append.1 hx with hx|hx
       ·exact hpt x hx
       ·obtain rfl:=List.mem_singleton.1 hx
        simp
    ·exact hr2 x hx
  ·have h1:runB dgN f row rl (out++[p.1])=some Q:=by
    rw [←h]
    show _=(if p.1≠[] then _ else _)
    rw [if_pos hp]
   refine gh_ f row rl _ Q h1 hr2 ht (fun s hs=>?_)
   rcases List.mem_append.1 hs with hs|hs
   ·exact ho s hs
   ·obtain rfl:=List.mem_singleton.1 hs
    exact hr p (List.mem_cons_self ..)
theorem sy_ {t:TmZ} (hr:rightZ t=true) (hv:t.value≤9223372036854775807):∀p∈ptsOf dgN (tmN t),p.1.length≤1000:=by
 have ok:=tm_ok hr hv
 have hk:=jm_ hr
 intro p hp
 unfold ptsOf at hp
 have hm:∀n,n≤17→(opMark n).length≤1000∧(unMark n).length≤1000:=fun n hn=>by have:=md_ ⟨n,by omega⟩;simp only at this;omega
 by_cases h1:(tmN t).kind=1
 ·rw [if_pos h1] at hp
  obtain rfl:=List.mem_singleton.1 hp
  have:=me_ 20 (tmN t).value (by decide) (by have:(tmN t).value=t.value.toNat:=rfl;omega)
  show (dgN _).length≤1000
  omega
 rw [if_neg h1] at hp
 by_cases h2:(tmN t).kind=2
 ·rw [if_pos h2] at hp
  obtain rfl:=List.mem_singleton.1 hp
  have:=(ok.two h2).1.name
  show (tmN t).name.length≤1000
  omega
 rw [if_neg h2] at hp
 by_cases h3:(tmN t).kind=3
 ·rw [if_pos h3] at hp
  have:=(ok.three h3).1.name
  simp only [List.mem_cons,List.not_mem_nil,or_false] at hp
  rcases hp with rfl|rfl|rfl|rfl
  ·show (tmN t).name.length≤1000;omega
  all_goals simp
 rw [if_neg h3] at hp
 by_cases h4:(tmN t).kind=4
 ·rw [if_pos h4] at hp
  have:=(ok.four h4).2.1
  have hh:=hm (tmN t).value this
  simp only [List.mem_cons,List.not_mem_nil,or_false] at hp
  rcases hp with rfl|rfl
  ·exact hh.2
  ·simp
 rw [if_neg h4] at hp
 have h5:(tmN t).kind=5:=by have e:(tmN t).kind=t.kind.toNat:=rfl;omega
 have:=(ok.five h5).2.1
 have hh:=hm (tmN t).value (by omega)
 simp only [List.mem_cons,List.not_mem_nil,or_false] at hp
 rcases hp with rfl|rfl|rfl|rfl|rfl
 ·simp
 ·simp
 ·exact hh.1
 ·simp
 ·simp
end Go.Proofs.YtpcniebkabkikaaGreatDoor
namespace Go.Proofs.YtpcniebkabkikaaGreatDoor
open Go
open Go.Proofs.Syn (K Ex Sx Sh Ln mk4 nm1 kw2 comma cv_ exsTk tgTk tx)
def kk (t:Tok):K:=⟨t.kind,t.text,t.value⟩
theorem xo_ {t r r':List Nat} (h:r.head?=r'.head?) (hs:Sep t r):Sep t r':=fun c x hc hx=>hs c x hc (by rw [h];exact hx)
theorem mh_ {r r':List Nat} (h:r.head?=r'.head?):∀(l:List (List Nat × K)),Lays l r→Lays l r'
 | [],_=>trivial
 | p::l,⟨h1,h2,h3,h4⟩=>⟨h1,h2,xo_ (by rw [List.head?_append,List.head?_append,h]) h3,mh_ h l h4⟩
theorem ph_:∀(l:List (List Nat × K)) (r:List Nat) (a:Nat),Lays l r →
 (scanL (lay l++r) a).2.2=(scanL r (a+(lay l).length)).2.2∧(scanL (lay l++r) a).1.map kk=l.map Prod.snd++(scanL r (a+(lay l).length)).1.map kk
 | [],r,a,_=>⟨rfl,rfl⟩
 | p::l,r,a,⟨h1,h2,h3,h4⟩=>by
  have e:lay (p::l)++r=p.1++(p.2.text++(lay l++r)):=by rw [lay];simp
  have el:a+(lay (p::l)).length=a+p.1.length+p.2.text.length+(lay l).length:=by rw [lay];simp;omega
  have ih:=ph_ l r (a+p.1.length+p.2.text.length) h4
  rw [e,hj_ _ _ _ h1,wg_ h2 h3,el]
  exact ⟨ih.1,by rw [List.map_cons,List.map_cons,ih.2];rfl⟩
def linesT (ls:List (List (List Nat × K))):List Nat:=ls.flatMap fun l=>lay l++[10]
theorem jz_:∀(ls:List (List (List Nat × K))) (a:Nat),(∀l∈ls,Lays l [10]) →
 (scanL (linesT ls) a).2.2=0∧(scanL (linesT ls) a).1.map kk=ls.flatMap fun l=>l.map Prod.snd
 | [],a,_=>by
  rw [show linesT []=[] from rfl,scanL]
  exact ⟨rfl,rfl⟩
 | l::ls,a,h=>by
  have e:linesT (l::ls)=lay l++(10::linesT ls):=by unfold linesT;rw [List.flatMap_cons];simp
  have hr:=ph_ l (10::linesT ls) a (mh_ (r:=[10]) (r':=10::linesT ls) rfl l (h l (List.mem_cons_self ..)))
  have ih:=jz_ ls (a+(lay l).length+1) (fun m hm=>h m (List.mem_cons_of_mem _ hm))
  rw [cw_ _ _ (by decide)] at hr
  rw [e]
  exact ⟨hr.1.trans ih.1,by rw [hr.2,ih.2,List.flatMap_cons]⟩
section
def rowIt {α:Type} (f:α→List Nat→List (List Nat × K)):List α→List Nat→List (List Nat × K)
 | [],_=>[]
 | x::l,g=>f x g++l.flatMap fun y=>([],mk4 [44])::f y [32]
theorem kp_ {α:Type} {f:α→List Nat→List (List Nat × K)} {t:α→List K} (h:∀x g,(f x g).map Prod.snd=t x) (l:List α) (g:List Nat):(rowIt f l g).map Prod.snd=comma t l:=by
 cases l with
 | nil=>rfl
 | cons x l =>
  rw [rowIt,cv_,nlh,h]
  congr 1
  induction l with
  | nil=>rfl
  | cons y l ih=>rw [List.flatMap_cons,List.flatMap_cons,nlh,List.map_cons,h,ih]
theorem kq_ {α:Type} {f:α→List Nat→List (List Nat × K)} {l:List α} (h:∀x∈l,∀g r,(∀b∈g,blankB b=true)→Soft r→Lays (f x g) r) {g r:List Nat} (hg:∀b∈g,blankB b=true) (hr:Soft r):Lays (rowIt f l g) r:=by
 cases l with
 | nil=>exact trivial
 | cons x l =>
  have hrest:∀l:List α,(∀x∈l,∀g r,(∀b∈g,blankB b=true)→Soft r→Lays (f x g) r)→Lays (l.flatMap fun y=>([],mk4 [44])::f y [32]) r∧Soft (lay (l.flatMap fun y=>([],mk4 [44])::f y [32])++r):=by
   intro l
   induction l with
   | nil=>exact fun _=>⟨trivial,hr⟩
   | cons y l ih =>
    intro h
    obtain ⟨h1,h2⟩:=ih fun x hx=>h x (List.mem_cons_of_mem _ hx)
    rw [List.flatMap_cons,List.cons_append]
    refine ⟨⟨fun _ h=>(by cases h),a9_ 44 (by decide),bq_ (by decide) (by decide) (by decide) _,(a2_ _ _ _).2 ⟨h y (List.mem_cons_self ..) [32] _ (by decide) h2,h1⟩⟩,?_⟩
    exact ak_ (by decide) _
  obtain ⟨h1,h2⟩:=hrest l fun y hy=>h y (List.mem_cons_of_mem _ hy)
  exact (a2_ _ _ _).2 ⟨h x (List.mem_cons_self ..) g _ hg h2,h1⟩
variable (dg:Nat→List Nat)
def nmIt (s:List Nat) (g:List Nat):List (List Nat × K):=[(g,nm1 s)]
def sxIt (x:Sx) (g:List Nat):List (List Nat × K) :=
 match x.kind,x.es with
 | 1,[e]=>rowIt nmIt x.targets g++([32],mk4 [61])::(exIt dg e 0 [32]++[([],mk4 [59])])
 | 2,[a,b]=>(g,nm1 x.name)::([],mk4 [91])::(exIt dg a 0 []++([],mk4 [93])::([32],mk4 [61])::(exIt dg b 0 [32]++[([],mk4 [59])]))
 | 3,[e] => (g,kw2 "send") :: ([32],nm1 x.name) :: (exIt dg e 0 [32] ++ [([],mk4 [59])])
 | 4,es=>(if x.targets=[] then [(g,nm1 x.name)] else rowIt nmIt x.targets g++[([32],mk4 [61]),([32],nm1 x.name)])++([],mk4 [40])::(rowIt (fun e g=>exIt dg e 0 g) es []++[([],mk4 [41]),([],mk4 [59])])
 | 5,[e] => (g,kw2 "if") :: (exIt dg e 0 [32] ++ [([32],mk4 [123])])
 | 6,_ => [(g,mk4 [125]),([32],kw2 "else"),([32],mk4 [123])]
 | 7,[e] => (g,kw2 "while") :: (exIt dg e 0 [32] ++ [([32],mk4 [123])])
 | 8,_=>[(g,mk4 [125])]
 | 9,es => (g,kw2 "return") :: (rowIt (fun e g => exIt dg e 0 g) es [32] ++ [([],mk4 [59])])
 | _,_=>[]
theorem zr_ (l:List (List Nat)) (g:List Nat):(rowIt nmIt l g).map Prod.snd=tgTk l:=kp_ (f:=nmIt) (t:=fun s=>[nm1 s]) (fun _ _=>rfl) l g
theorem sz_ (l:List Ex) (g:List Nat):(rowIt (fun e g=>exIt dg e 0 g) l g).map Prod.snd=exsTk dg l:=kp_ (f:=fun e g=>exIt dg e 0 g) (t:=fun e=>e.tk dg 0) (fun e g=>cp_ dg e 0 g) l g
theorem sxIt_tk {x:Sx} (h:Ln x) (g:List Nat):(sxIt dg x g).map Prod.snd=x.tk dg:=by
 cases h with
 | sh h =>
  cases h with
  | assign s e=>simp [sxIt,Sx.tk,zr_,cp_]
  | store s a b=>simp [sxIt,Sx.tk,cp_]
  | send c e=>simp [sxIt,Sx.tk,cp_]
  | call ts s es =>
   by_cases h:ts=[]
   ·simp [sxIt,Sx.tk,h,sz_]
   ·simp [sxIt,Sx.tk,h,zr_,sz_]
 | iff e=>simp [sxIt,Sx.tk,cp_]
 | els=>rfl
 | whi e=>simp [sxIt,Sx.tk,cp_]
 | fin=>rfl
 | ret es=>simp [sxIt,Sx.tk,sz_]
variable {dg}
theorem cx_ {s:String} (h:wordL (tx s)=((tx s).length,2)∧tx s≠[]∧((tx s).head?.map fun c=>(blankB c,decide (c=35)))=some (false,false)):Good 2 (tx s) 0:=by
 obtain ⟨h1,h2,h3⟩:=h
 exact ⟨h1,h2,fun c hc=>(by rw [hc] at h3;simpa using h3),fun e=>absurd e.1 (by decide),fun e=>absurd e.1 (by decide),rfl⟩
theorem pi_ {l:List (List Nat)} (h:∀s∈l,PN s) {g r:List Nat} (hg:∀b∈g,blankB b=true) (hr:Soft r):Lays (rowIt nmIt l g) r:=kq_ (f:=nmIt) (fun s hs g r hg hr=>(show Lays [(g,nm1 s)] r from ⟨hg,h s hs,a7_ _ hr,trivial⟩)) hg hr
theorem pj_ {l:List Ex} (h:∀e∈l,e.Wf∧e.dp 0≤12∧e.All PN (QN dg)) {g r:List Nat} (hg:∀b∈g,blankB b=true) (hr:Soft r):Lays (rowIt (fun e g=>exIt dg e 0 g) l g) r:=kq_ (f:=fun e g=>exIt dg e 0 g) (fun e he g r hg hr=>c4_ e 0 g r (h e he).1 (h e he).2.2 hg hr) hg hr
theorem b0:∀b∈([]:List Nat),blankB b=true:=fun _ h=>by cases h
theorem b32:∀b∈([32]:List Nat),blankB b=true:=by decide
theorem cj_ {r:List Nat} (_:Soft r):Lays [([],mk4 [59])] r:=⟨b0,a9_ 59 (by decide),bq_ (by decide) (by decide) (by decide) _,trivial⟩
theorem fr_ {r:List Nat} (_:Soft r):Lays [([32],mk4 [123])] r:=⟨b32,a9_ 123 (by decide),bq_ (by decide) (by decide) (by decide) _,trivial⟩
theorem mi_ {s:List Nat} {es:List Ex} (hs:PN s) (he:∀e∈es,e.Wf∧e.dp 0≤12∧e.All PN (QN dg)) {g r:List Nat} (hg:∀b∈g,blankB b=true) (hr:Soft r):Lays ((g,nm1 s)::([],mk4 [40])::(rowIt (fun e g=>exIt dg e 0 g) es []++[([],mk4 [41]),([],mk4 [59])])) r :=
 ⟨hg,hs,a7_ _ (ak_ (by decide) _),b0,a9_ 40 (by decide),bq_ (by decide) (by decide) (by decide) _,(a2_ _ _ _).2 ⟨pj_ he b0 (ak_ (by decide) _),b0,a9_ 41 (by decide),a7_ _ (ak_ (by decide) _),cj_ hr⟩⟩
theorem lays_sx {x:Sx} (ha:x.Al PN (QN dg)) {g r:List Nat} (hg:∀b∈g,blankB b=true) (hr:Soft r):Lays (sxIt dg x g) r:=by
 obtain ⟨⟨h,hn⟩,h2,h3⟩:=ha
 cases h with
 | sh h =>
  cases h with
  | assign s e =>
   have he:=h3 e (by simp)
   exact (a2_ _ _ _).2 ⟨pi_ (l:=[s]) h2 hg (ak_ (by decide) _),b32,a9_ 61 (by decide),by
    show Sep [61] (lay (exIt dg e 0 [32]++[([],mk4 [59])])++r)
    rw [aq_,a8_];exact ca_ _ (by decide) _,(a2_ _ _ _).2 ⟨c4_ e 0 [32] _ he.1 he.2.2 b32 (ak_ (by decide) _),cj_ hr⟩⟩
  | store s a b =>
   have hA:=h3 a (by simp)
   have hB:=h3 b (by simp)
   exact ⟨hg,hn (.inl rfl),a7_ _ (ak_ (by decide) _),b0,a9_ 91 (by decide),bq_ (by decide) (by decide) (by decide) _,(a2_ _ _ _).2 ⟨c4_ a 0 [] _ hA.1 hA.2.2 b0 (ak_ (by decide) _),b0,a9_ 93 (by decide),bq_ (by decide) (by decide) (by decide) _,b32,a9_ 61 (by decide),by
    rw [aq_,a8_];exact ca_ _ (by decide) _,(a2_ _ _ _).2 ⟨c4_ b 0 [32] _ hB.1 hB.2.2 b32 (ak_ (by decide) _),cj_ hr⟩⟩⟩
  | send c e =>
   have he:=h3 e (by simp)
   exact ⟨hg,cx_ (by decide),a7_ _ (ak_ (by decide) _),b32,hn (.inr (.inl rfl)),by
    rw [aq_,a8_];exact ca_ _ (by decide) _,(a2_ _ _ _).2 ⟨c4_ e 0 [32] _ he.1 he.2.2 b32 (ak_ (by decide) _),cj_ hr⟩⟩
  | call ts s es =>
   have hs:PN s:=hn (.inr (.inr rfl))
   by_cases h:ts=[]
   ·have e:sxIt dg ⟨4,s,ts,es⟩ g=(g,nm1 s)::([],mk4 [40])::(rowIt (fun e g=>exIt dg e 0 g) es []++[([],mk4 [41]),([],mk4 [59])]):=by simp [sxIt,h]
    rw [e];exact mi_ hs h3 hg hr
   ·have e:sxIt dg ⟨4,s,ts,es⟩ g=rowIt nmIt ts g++([32],mk4 [61])::(([32],nm1 s)::([],mk4 [40])::(rowIt (fun e g=>exIt dg e 0 g) es []++[([],mk4 [41]),([],mk4 [59])])):=by simp [sxIt,h]
    rw [e]
    exact (a2_ _ _ _).2 ⟨pi_ h2 hg (ak_ (by decide) _),b32,a9_ 61 (by decide),ca_ _ (by decide) _,mi_ hs h3 b32 hr⟩
 | iff e =>
  have he:=h3 e (by simp)
  exact ⟨hg,cx_ (by decide),by rw [aq_,a8_];exact ca_ _ (by decide) _,(a2_ _ _ _).2 ⟨c4_ e 0 [32] _ he.1 he.2.2 b32 (ak_ (by decide) _),fr_ hr⟩⟩
 | els=>exact ⟨hg,a9_ 125 (by decide),bq_ (by decide) (by decide) (by decide) _,b32,cx_ (by decide),ca_ _ (by decide) _,fr_ hr⟩
 | whi e =>
  have he:=h3 e (by simp)
  exact ⟨hg,cx_ (by decide),by rw [aq_,a8_];exact ca_ _ (by decide) _,(a2_ _ _ _).2 ⟨c4_ e 0 [32] _ he.1 he.2.2 b32 (ak_ (by decide) _),fr_ hr⟩⟩
 | fin=>exact ⟨hg,a9_ 125 (by decide),bq_ (by decide) (by decide) (by decide) _,trivial⟩
 | ret es =>
  refine ⟨hg,cx_ (by decide),?_,(a2_ _ _ _).2 ⟨pj_ h3 b32 (ak_ (by decide) _),cj_ hr⟩⟩
  cases es with
  | nil=>exact a7_ _ (ak_ (by decide) _)
  | cons e es =>
   rw [rowIt,aq_,aq_,a8_]
   exact ca_ _ (by decide) _
end
end Go.Proofs.YtpcniebkabkikaaGreatDoor
namespace Go.Proofs.YtpcniebkabkikaaGreatDoor
open Go
open Go.Proofs.Syn (K Ex Sx Sh Ln De Ar Fx Sox St At R mk4 nm1 kw2 comma cv_ exsTk tgTk tx lbNs lbTk deTk rowTk varTk sxsTk glTk chTk arTk prTk f9_ LbOk)
def blIt:List (List Nat)→List (List Nat × K)
 | []=>[]
 | s::l=>([],nm1 s)::l.map fun s=>([32],nm1 s)
def lbIt (ns:List (List Nat)) (m:Nat) (g:List Nat):List (List Nat × K):=(g,mk4 [123])::(blIt (lbNs ns m)++[([],mk4 [125])])
def deIt (ns:List (List Nat)) (d:De) (g:List Nat):List (List Nat × K):=(g,nm1 d.name)::lbIt ns d.label [32]
def brIt {α:Type} (f:α→List Nat→List (List Nat × K)) (l:List α):List (List Nat × K):=([32],mk4 [40])::(rowIt f l []++[([],mk4 [41])])
def kdIt (ns:List (List Nat)) (s:String) (g:List Nat) (d:De):List (List Nat × K):=(g,kw2 s)::(deIt ns d [32]++[([],mk4 [59])])
def ind (d:Nat):List Nat:=List.replicate (2*d) 32
section
variable (dg:Nat→List Nat)
def arIt (ns : List (List Nat)) (a : Ar) : List (List Nat × K) := ([],kw2 "array") :: ([32],nm1 a.name) :: ([32],⟨3,dg a.len,a.len⟩) :: (lbIt ns a.label [32] ++ [([],mk4 [59])])
def prIt (ns : List (List Nat)) : List (List Nat × K) := ([],kw2 "principal") :: ((ns.map fun s => ([32],nm1 s)) ++ [([],mk4 [59])])
def stLs:Nat→List Sx→List (List (List Nat × K))
 | _,[]=>[]
 | d,x::l=>sxIt dg x (ind (if x.kind=6∨x.kind=8 then d - 1 else d))::stLs (if x.kind=5∨x.kind=7 then d+1 else if x.kind=8 then d - 1 else d) l
def fhIt (ns : List (List Nat)) (x : Fx) : List (List Nat × K) := ([],kw2 "func") :: ([32],nm1 x.name) :: (lbIt ns x.level [32] ++ (brIt (deIt ns) x.params ++ (brIt (lbIt ns) x.results ++ [([32],mk4 [123])])))
def fxLs (ns:List (List Nat)) (x:Fx):List (List (List Nat × K)) :=
 fhIt ns x :: (x.vars.map (kdIt ns "var" (ind 1)) ++ (stLs dg 1 (x.body.flatten ++ [⟨9,[],[],x.es⟩]) ++ [[([],mk4 [125])]]))
def soLs (x:Sox):List (List (List Nat × K)) :=
 (if x.principals = [] then [] else [prIt x.principals]) ++ (x.globals.map (kdIt x.principals "global" []) ++ (x.arrays.map (arIt dg x.principals) ++ (x.channels.map (kdIt x.principals "channel" []) ++ x.funcs.flatMap (fxLs dg x.principals))))
def soText (x:Sox):List Nat:=linesT (soLs dg x)
theorem blIt_tk (l:List (List Nat)):(blIt l).map Prod.snd=l.map nm1:=by
 cases l with
 | nil=>rfl
 | cons s l=>simp [blIt]
theorem kr_ (ns:List (List Nat)) (m:Nat) (g:List Nat):(lbIt ns m g).map Prod.snd=lbTk ns m:=by
 unfold lbIt lbTk;rw [List.map_cons,nlh,blIt_tk];rfl
theorem s0_ (ns:List (List Nat)) (d:De) (g:List Nat):(deIt ns d g).map Prod.snd=deTk ns d:=by
 unfold deIt deTk;rw [List.map_cons,kr_]
theorem og_ (ns:List (List Nat)) (s:String) (g:List Nat) (d:De):(kdIt ns s g d).map Prod.snd=kw2 s::(deTk ns d++[mk4 [59]]):=by
 unfold kdIt;rw [List.map_cons,nlh,s0_];rfl
theorem arIt_tk (ns:List (List Nat)) (a:Ar):(arIt dg ns a).map Prod.snd=arTk ns dg a:=by
 unfold arIt arTk;rw [List.map_cons,List.map_cons,List.map_cons,nlh,kr_];rfl
theorem s1_ {α:Type} {f:α→List Nat→List (List Nat × K)} {t:α→List K} (h:∀x g,(f x g).map Prod.snd=t x) (l:List α):(brIt f l).map Prod.snd=rowTk t l:=by
 unfold brIt rowTk;rw [List.map_cons,nlh,kp_ h];rfl
theorem s2_:∀(l:List Sx) (d:Nat),(∀x∈l,Ln x)→((stLs dg d l).flatMap fun l=>l.map Prod.snd)=sxsTk dg l
 | [],_,_=>rfl
 | x::l,d,h=>by
  rw [stLs,List.flatMap_cons,sxIt_tk dg (h x (List.mem_cons_self ..)),s2_ l _ fun y hy=>h y (List.mem_cons_of_mem _ hy),Syn.sxsTk_cons]
theorem pk_ {α:Type} {f:α→List (List Nat × K)} {t:α→List K} (h:∀x,(f x).map Prod.snd=t x) (l:List α):((l.map f).flatMap fun l=>l.map Prod.snd)=l.flatMap t:=by
 induction l with
 | nil=>rfl
 | cons x l ih=>rw [List.map_cons,List.flatMap_cons,List.flatMap_cons,h,ih]
theorem fxLs_tk (ns:List (List Nat)) (x:Fx) (h:∀y∈x.body.flatten,Ln y):((fxLs dg ns x).flatMap fun l=>l.map Prod.snd)=x.tk ns dg:=by
 unfold fxLs fhIt Fx.tk
 have h2:∀y∈x.body.flatten++[⟨9,[],[],x.es⟩],Ln y:=Syn.mem_snoc h (.ret _)
 rw [List.flatMap_cons,List.flatMap_append,List.flatMap_append,pk_ (t := varTk ns) (fun d => og_ ns "var" _ d),s2_ dg _ _ h2,Syn.sxsTk_app]
 rw [List.map_cons,List.map_cons,nlh,nlh,nlh,kr_,s1_ (t:=deTk ns) (s0_ ns),s1_ (t:=lbTk ns) (kr_ ns)]
 rw [show sxsTk dg [⟨9,[],[],x.es⟩] = kw2 "return" :: (exsTk dg x.es ++ [mk4 [59]]) by simp [sxsTk,Sx.tk]]
 simp
theorem soLs_tk (x:Sox) (h:∀f∈x.funcs,∀y∈f.body.flatten,Ln y):((soLs dg x).flatMap fun l=>l.map Prod.snd)=x.tk dg:=by
 unfold soLs Sox.tk
 rw [List.flatMap_append,List.flatMap_append,List.flatMap_append,List.flatMap_append,pk_ (t := glTk x.principals) (fun d => og_ _ "global" _ d),pk_ (t := chTk x.principals) (fun d => og_ _ "channel" _ d),pk_ (t := arTk x.principals dg) (arIt_tk dg x.principals)]
 have hp:((if x.principals=[] then [] else [prIt x.principals]).flatMap fun l=>l.map Prod.snd)=prTk x.principals:=by
  unfold prTk
  split
  ·rfl
  ·simp [prIt]
 have hf:∀(l:List Fx),(∀f∈l,∀y∈f.body.flatten,Ln y)→((l.flatMap (fxLs dg x.principals)).flatMap fun l=>l.map Prod.snd)=l.flatMap (Fx.tk x.principals dg):=by
  intro l
  induction l with
  | nil=>exact fun _=>rfl
  | cons f l ih =>
   intro h
   rw [List.flatMap_cons,List.flatMap_append,List.flatMap_cons,fxLs_tk dg _ f (h f (List.mem_cons_self ..)),ih fun g hg=>h g (List.mem_cons_of_mem _ hg)]
 rw [hp,hf _ h]
variable {dg}
theorem b_ind (d:Nat):∀b∈ind d,blankB b=true:=fun b hb=>by
 rw [List.eq_of_mem_replicate hb];decide
theorem if_:Soft [10]:=ak_ (by decide) _
theorem s3_ {l:List (List Nat)} (h:∀s∈l,PN s) {r:List Nat} (hr:Soft r):Lays (l.map fun s=>(([32],nm1 s):List Nat × K)) r∧Soft (lay (l.map fun s=>(([32],nm1 s):List Nat × K))++r):=by
 induction l with
 | nil=>exact ⟨trivial,hr⟩
 | cons s l ih =>
  obtain ⟨h1,h2⟩:=ih fun t ht=>h t (List.mem_cons_of_mem _ ht)
  exact ⟨⟨b32,h s (List.mem_cons_self ..),a7_ _ h2,h1⟩,ak_ (by decide) _⟩
theorem ks_ {ns:List (List Nat)} (hn:∀s∈ns,PN s) (m:Nat) {g r:List Nat} (hg:∀b∈g,blankB b=true) (_:Soft r):Lays (lbIt ns m g) r:=by
 have hm:∀s∈lbNs ns m,PN s:=fun s hs=>by
  obtain ⟨i,h1,_,rfl⟩:=f9_.1 hs
  exact hn _ (List.getElem_mem h1)
 have hend:Lays [([],mk4 [125])] r:=⟨b0,a9_ 125 (by decide),bq_ (by decide) (by decide) (by decide) _,trivial⟩
 refine ⟨hg,a9_ 123 (by decide),bq_ (by decide) (by decide) (by decide) _,(a2_ _ _ _).2 ⟨?_,hend⟩⟩
 cases hl:lbNs ns m with
 | nil=>exact trivial
 | cons s l =>
  rw [hl] at hm
  obtain ⟨h1,h2⟩:=s3_ (l:=l) (fun t ht=>hm t (List.mem_cons_of_mem _ ht)) (r:=lay [([],mk4 [125])]++r) (ak_ (by decide) _)
  exact ⟨b0,hm s (List.mem_cons_self ..),a7_ _ h2,h1⟩
theorem s4_ {ns:List (List Nat)} (hn:∀s∈ns,PN s) {d:De} (hd:PN d.name) {g r:List Nat} (hg:∀b∈g,blankB b=true) (hr:Soft r):Lays (deIt ns d g) r:=⟨hg,hd,a7_ _ (ak_ (by decide) _),ks_ hn _ b32 hr⟩
theorem oh_ {ns:List (List Nat)} (hn:∀s∈ns,PN s) {s:String} (hs:Good 2 (tx s) 0) {d:De} (hd:PN d.name) {g:List Nat} (hg:∀b∈g,blankB b=true):Lays (kdIt ns s g d) [10]:=⟨hg,hs,a7_ _ (ak_ (by decide) _),(a2_ _ _ _).2 ⟨s4_ hn hd b32 (ak_ (by decide) _),cj_ if_⟩⟩
theorem lays_ar {ns:List (List Nat)} (hn:∀s∈ns,PN s) {a:Ar} (ha:PN a.name) (hq:QN dg a.len):Lays (arIt dg ns a) [10]:=⟨b0,cx_ (by decide),a7_ _ (ak_ (by decide) _),b32,ha,a7_ _ (ak_ (by decide) _),b32,hq,a7_ _ (ak_ (by decide) _),(a2_ _ _ _).2 ⟨ks_ hn _ b32 (ak_ (by decide) _),cj_ if_⟩⟩
theorem lays_pr {ns:List (List Nat)} (hn:∀s∈ns,PN s):Lays (prIt ns) [10]:=by
 obtain ⟨h1,h2⟩:=s3_ hn (r:=lay [([],mk4 [59])]++[10]) (ak_ (by decide) _)
 exact ⟨b0,cx_ (by decide),by rw [aq_,nlb];exact a7_ _ h2,(a2_ _ _ _).2 ⟨h1,cj_ if_⟩⟩
theorem s5_ {α:Type} {f:α→List Nat→List (List Nat × K)} {l:List α} (h:∀x∈l,∀g r,(∀b∈g,blankB b=true)→Soft r→Lays (f x g) r) {r:List Nat} (hr:Soft r):Lays (brIt f l) r∧∀q,Soft (lay (brIt f l)++q) :=
 ⟨⟨b32,a9_ 40 (by decide),bq_ (by decide) (by decide) (by decide) _,(a2_ _ _ _).2 ⟨kq_ h b0 (ak_ (by decide) _),b0,a9_ 41 (by decide),a7_ _ hr,trivial⟩⟩,fun _=>ak_ (by decide) _⟩
theorem s6_:∀(l:List Sx) (d:Nat),(∀x∈l,x.Al PN (QN dg))→∀m∈stLs dg d l,Lays m [10]
 | [],_,_,_,h=>by cases h
 | x::l,d,h,m,hm=>by
  rw [stLs] at hm
  rcases List.mem_cons.1 hm with rfl|hm
  ·exact lays_sx (h x (List.mem_cons_self ..)) (b_ind _) if_
  ·exact s6_ l _ (fun y hy=>h y (List.mem_cons_of_mem _ hy)) m hm
theorem lays_fx {ns:List (List Nat)} (hn:∀s∈ns,PN s) {x:Fx} (hx:x.Ok ns dg PN (QN dg)):∀m∈fxLs dg ns x,Lays m [10]:=by
 intro m hm
 unfold fxLs at hm
 rcases List.mem_cons.1 hm with rfl|hm
 ·have b2:=s5_ (f:=lbIt ns) (l:=x.results) (fun m _ g r hg hr=>ks_ hn m hg hr) (r:=lay [([32],mk4 [123])]++[10]) (ak_ (by decide) _)
  have b1:=s5_ (f:=deIt ns) (l:=x.params) (fun d hd g r hg hr=>s4_ hn (hx.ps d hd).1 hg hr) (r:=lay (brIt (lbIt ns) x.results++[([32],mk4 [123])])++[10]) (ak_ (by decide) _)
  exact ⟨b0,cx_ (by decide),a7_ _ (ak_ (by decide) _),b32,hx.nm,a7_ _ (ak_ (by decide) _),(a2_ _ _ _).2 ⟨ks_ hn _ b32 (ak_ (by decide) _),(a2_ _ _ _).2 ⟨b1.1,(a2_ _ _ _).2 ⟨b2.1,fr_ if_⟩⟩⟩⟩
 ·rcases List.mem_append.1 hm with hm|hm
  ·obtain ⟨d,h1,rfl⟩:=List.mem_map.1 hm
   exact oh_ hn (cx_ (by decide)) (hx.vs d h1).1 (b_ind 1)
  ·rcases List.mem_append.1 hm with hm|hm
   ·refine s6_ _ 1 (Syn.mem_snoc (fun y hy=>?_) ⟨⟨.ret _,fun h=>by simp at h⟩,fun _ h=>(by cases h),hx.es⟩) m hm
    obtain ⟨xs,h1,h2⟩:=List.mem_flatten.1 hy
    exact (hx.bd xs h1).al y h2
   ·rw [List.mem_singleton] at hm
    rw [hm]
    exact ⟨b0,a9_ 125 (by decide),bq_ (by decide) (by decide) (by decide) _,trivial⟩
theorem lays_so {x:Sox} (hx:x.Ok dg PN (QN dg)):∀m∈soLs dg x,Lays m [10]:=by
 intro m hm
 unfold soLs at hm
 rcases List.mem_append.1 hm with hm|hm
 ·split at hm
  ·cases hm
  ·rw [List.mem_singleton] at hm;rw [hm];exact lays_pr hx.ps
 ·rcases List.mem_append.1 hm with hm|hm
  ·obtain ⟨d,h1,rfl⟩:=List.mem_map.1 hm
   exact oh_ hx.ps (cx_ (by decide)) (hx.gs d h1).1 b0
  ·rcases List.mem_append.1 hm with hm|hm
   ·obtain ⟨d,h1,rfl⟩:=List.mem_map.1 hm
    exact lays_ar hx.ps (hx.ars d h1).1 (hx.ars d h1).2.1
   ·rcases List.mem_append.1 hm with hm|hm
    ·obtain ⟨d,h1,rfl⟩:=List.mem_map.1 hm
     exact oh_ hx.ps (cx_ (by decide)) (hx.cs d h1).1 b0
    ·obtain ⟨f,h1,h2⟩:=List.mem_flatMap.1 hm
     exact lays_fx hx.ps (hx.fs f h1) m h2
theorem so_ln {x:Sox} (hx:x.Ok dg PN (QN dg)):∀f∈x.funcs,∀y∈f.body.flatten,Ln y:=fun f hf y hy=>by
 obtain ⟨xs,h1,h2⟩:=List.mem_flatten.1 hy
 exact ((hx.fs f hf).bd xs h1).al y h2 |>.1.1
theorem s7_ {x:Sox} (hx:x.Ok dg PN (QN dg)) (a:Nat):(scanL (soText dg x) a).2.2=0∧(scanL (soText dg x) a).1.map kk=x.tk dg:=by
 obtain ⟨h1,h2⟩:=jz_ (soLs dg x) a (lays_so hx)
 exact ⟨h1,h2.trans (soLs_tk dg x (so_ln hx))⟩
theorem s8_ {x:Sox} (hx:x.Ok dg PN (QN dg)) (a:Nat) {F:Nat} (hF:(x.tk dg).length+1<F):Syn.source (fun i=>((scanL (soText dg x) a).1.map kk)[i]?) F=.ok (x.so,(x.tk dg).length):=by
 rw [(s7_ hx a).2]
 exact Syn.source_rd hx (fun j y h=>by rw [Nat.zero_add];exact h) (List.getElem?_eq_none (Nat.le_refl _)) hF
end
end Go.Proofs.YtpcniebkabkikaaGreatDoor
namespace Go.Proofs.YtpcniebkabkikaaGreatDoor
open Go
open Go.Proofs.Syn (K Ex Sx Ln De Ar Fx Sox mk4 nm1 kw2 lbNs LbOk)
theorem sb_inj {s t:List Nat} (hs:∀c∈s,c<256) (ht:∀c∈t,c<256) (h:sb s=sb t):s=t:=by
 rw [←e7_ hs,←e7_ ht,h]
theorem sb_list {s:List Nat} (hs:∀c∈s,c<256):(sb s).data.toList.map UInt8.toNat=s:=e7_ hs
theorem wf_name {s:List Nat} (h:PN s):Bt.wfB (sb s).data.toList=true:=by
 have hlt:=eb_ h
 have hw:=h.word
 have hn:=h.name
 cases s with
 | nil=>exact absurd rfl h.ne
 | cons x t =>
  have hl:letterB x=true:=by
   cases hl:letterB x with
   | true=>rfl
   | false =>
    rw [wordL,if_neg (by rw [hl];simp)] at hw
    split at hw
    ·injection hw with _ h2;cases h2
    ·split at hw
     ·injection hw with _ h2;cases h2
     ·split at hw
      ·injection hw with _ h2;cases h2
      ·injection hw with _ h2;cases h2
  have hall:∀c∈x::t,nameB c=true:=by
   rw [wordL,if_pos hl] at hw
   simp only at hw
   injection hw with h1 _
   have hall:(x::t).takeWhile nameB=x::t:=by
    have:=as_ (p:=nameB) (x::t)
    rw [h1,List.take_length] at this
    exact this.symm
   exact fun c hc=>bd_ (x::t) c (by rw [hall];exact hc)
  have hu:∀c,c<256→(UInt8.ofNat c).toNat=c:=fun c hc=>by rw [UInt8.toNat_ofNat'];omega
  have hok:∀c∈x::t,Bt.okB (UInt8.ofNat c)=true:=by
   intro c hc
   have h1:=hall c hc
   have h2:=hlt c hc
   unfold Bt.okB Bt.letB Bt.digB
   rw [hu c h2]
   unfold nameB letterB digitB at h1
   simp only [Bool.or_eq_true,Bool.and_eq_true,decide_eq_true_eq,beq_iff_eq] at h1 ⊢
   exact h1
  have hdig:Bt.digB (UInt8.ofNat x)=false:=by
   unfold Bt.digB
   rw [hu x (hlt x (List.mem_cons_self ..))]
   unfold letterB at hl
   simp only [Bool.or_eq_true,Bool.and_eq_true,decide_eq_true_eq,beq_iff_eq] at hl
   rw [Bool.and_eq_false_iff]
   simp only [decide_eq_false_iff_not]
   omega
  show Bt.wfB (UInt8.ofNat x::t.map UInt8.ofNat)=true
  unfold Bt.wfB
  rw [Bool.and_eq_true,Bool.and_eq_true,decide_eq_true_eq,List.all_eq_true]
  refine ⟨?_,by rw [hdig];rfl,?_⟩
  ·have h32:(x::t).length≤32:=Nat.le_of_not_lt fun h=>hn ⟨rfl,h⟩
   rw [List.length_cons] at h32
   rw [List.length_cons,List.length_map];exact h32
  ·intro y hy
   rcases List.mem_cons.1 hy with rfl|hy
   ·exact hok x (List.mem_cons_self ..)
   ·obtain ⟨c,hc,rfl⟩:=List.mem_map.1 hy
    exact hok c (List.mem_cons_of_mem _ hc)
theorem pl_ (ns:List (List Nat)) {i:Nat} (h:i<ns.length):(ns.map sb).getD i ByteArray.empty=sb ns[i]:=by
 rw [List.getD_eq_getElem?_getD,List.getElem?_map,List.getElem?_eq_getElem h];rfl
theorem pm_ {l:List ByteArray} {k i:Nat} {x:ByteArray} (h:i≠k):(l.set k x).getD i ByteArray.empty=l.getD i ByteArray.empty:=by
 rw [List.getD_eq_getElem?_getD,List.getD_eq_getElem?_getD,List.getElem?_set_ne (fun e=>h e.symm)]
theorem gl_in (ns:List (List Nat)):∀(k j:Nat),(Bt.gl (ns.map sb) k).getD j ByteArray.empty=ByteArray.empty∨(j<k∧(Bt.gl (ns.map sb) k).getD j ByteArray.empty=(ns.map sb).getD j ByteArray.empty)
 | 0,j=>.inl (by
  show (List.replicate 64 ByteArray.empty).getD j ByteArray.empty=_
  rw [List.getD_eq_getElem?_getD]
  cases h:(List.replicate 64 ByteArray.empty)[j]? with
  | none=>rfl
  | some x=>exact (List.mem_replicate.1 (List.mem_of_getElem? h)).2)
 | k+1,j=>by
  have ih:=gl_in ns k j
  rw [Bt.gl]
  split
  ·by_cases e:j=k
   ·subst e
    by_cases hl:j<(Bt.gl (ns.map sb) j).length
    ·refine .inr ⟨by omega,?_⟩
     rw [List.getD_eq_getElem?_getD,List.getElem?_set_self hl];rfl
    ·refine .inl ?_
     rw [List.getD_eq_getElem?_getD,List.getElem?_eq_none (by rw [List.length_set];omega)];rfl
   ·rw [pm_ e]
    rcases ih with h|⟨h1,h2⟩
    ·exact .inl h
    ·exact .inr ⟨by omega,h2⟩
  ·rcases ih with h|⟨h1,h2⟩
   ·exact .inl h
   ·exact .inr ⟨by omega,h2⟩
theorem zs_:∀(l:List (List Nat)) {j:Nat} (h:j<l.length),l.idxOf l[j]≤j
 | x::l,0,h=>by rw [List.getElem_cons_zero,List.idxOf_cons_self];exact Nat.le_refl _
 | x::l,j+1,h=>by
  rw [List.getElem_cons_succ,List.idxOf_cons]
  have:=zs_ l (j:=j) (by simpa using h)
  cases (x == l[j]'(by simpa using h)) with
  | true=>exact Nat.zero_le _
  | false=>show l.idxOf _+1≤_;omega
theorem gl_at {ns:List (List Nat)} (hn:∀s∈ns,PN s) {i:Nat} (hi:i<ns.length) (h64:i<64) (hf:ns.idxOf ns[i]=i):∀k,i<k→(Bt.gl (ns.map sb) k).getD i ByteArray.empty=sb ns[i]
 | 0,h=>absurd h (by omega)
 | k+1,h=>by
  rw [Bt.gl]
  by_cases e:i=k
  ·subst e
   have hg:=pl_ ns hi
   have hw:=wf_name (hn _ (List.getElem_mem hi))
   have hc:Lib.containsS ((Bt.gl (ns.map sb) i).take i) (sb ns[i])=false:=by
    rw [Bool.eq_false_iff]
    intro hc
    rw [Lib.containsS_iff] at hc
    obtain ⟨j,hj,he⟩:=List.getElem_of_mem hc
    have hji:j<i:=by rw [List.length_take] at hj;omega
    rw [List.getElem_take] at he
    have hgd:(Bt.gl (ns.map sb) i).getD j ByteArray.empty=sb ns[i]:=by
     rw [List.getD_eq_getElem?_getD,List.getElem?_eq_getElem (by rw [List.length_take] at hj;omega),he];rfl
    have hne:sb ns[i]≠ByteArray.empty:=by
     intro e0
     have h1:=congrArg ByteArray.size e0
     rw [o9_] at h1
     exact (hn _ (List.getElem_mem hi)).ne (List.eq_nil_of_length_eq_zero h1)
    rcases gl_in ns i j with h0|⟨_,h0⟩
    ·exact hne (by rw [←hgd,h0])
    ·have hjl:j<ns.length:=by omega
     rw [h0,pl_ ns hjl] at hgd
     have heq:=sb_inj (eb_ (hn _ (List.getElem_mem hjl))) (eb_ (hn _ (List.getElem_mem hi))) hgd
     have h1:ns.idxOf ns[i]≤j:=by rw [←heq];exact zs_ ns hjl
     omega
   rw [hg,if_pos (by rw [hw,hc];rfl),List.getD_eq_getElem?_getD,List.getElem?_set_self (by rw [Bt.gl_length];exact h64)]
   rfl
  ·have ih:=gl_at hn hi h64 hf k (by omega)
   split
   ·rw [pm_ e];exact ih
   ·exact ih
theorem item_at {ns:List (List Nat)} (hn:∀s∈ns,PN s) {i:Nat} (hi:i<ns.length) (h64:i<64) (hf:ns.idxOf ns[i]=i) {k:Nat} (hk:i<k):(Bt.itemB (Bt.gl (ns.map sb) k) i).map UInt8.toNat=ns[i]:=by
 have hp:=hn _ (List.getElem_mem hi)
 have hl:=sb_list (eb_ hp)
 unfold Bt.itemB
 rw [gl_at hn hi h64 hf k hk,if_neg (fun e=>hp.ne (by rw [←hl,e];rfl))]
 exact hl
end Go.Proofs.YtpcniebkabkikaaGreatDoor
namespace Go.Proofs.YtpcniebkabkikaaGreatDoor
open Go Go.RowKit Go.Proofs.Mm
open Go.Proofs.Syn (K Ex Tm opLv opMark unMark b1_)
section
variable {C:Cl} {W:World}
theorem textW_p (l:List TmZ) (hf:ExF l) (hw:wholeZ l=true) {q:Option Addr} {c:Nat} (hrow:TmRow C q l) (hc:c≤maxLen) (hlc:l.length≤c) (hr:CLe C (wC W)) (hE:EnvP W) :
 Calls prog 44 #[.slice q l.length c] W fun e w'=>e=.returned (.string (sb (exZ l)))∧Below W.heap.size W w':=by
 have hv:∀t∈l,t.value≤9223372036854775807:=fun t ht=>(hf.2 t ht).2
 obtain ⟨e,⟨a,b⟩,h1,h2,_⟩:=g5_ hw hv
 obtain ⟨n,q',hq,hfl⟩:=runB_ex (dg:=dgN) a b
 have hw2:wholeF l 0=some 1:=by unfold wholeZ at hw;simpa using hw
 have hrt:=fun t ht=>fm_ hw2 t ht
 have hF:runB dgN (n+0+1) [([],0)] (l.map tmN).reverse []=some q':=by rw [h1];exact hq 0
 have hsm:=gh_ _ _ _ _ _ hF (fun p hp=>by obtain rfl:=List.mem_singleton.1 hp;simp) (fun t ht p hp=>by
  obtain ⟨z,hz,rfl⟩:=List.mem_map.1 (List.mem_reverse.1 ht)
  exact sy_ (hrt z hz) (hv z hz) p hp) (fun _ h=>absurd h (by simp))
 have h3:exZ l=q'.reverse.flatten:=by unfold exZ;rw [if_pos hw,h2,hfl]
 rw [h3]
 exact xn_ l hf.1 (fun t ht=>⟨hrt t ht,hv t ht⟩) hrow hc hlc hr hE hsm hF
theorem s9_ (l:List TmZ) (hf:ExF l) {q:Option Addr} {c:Nat} (hrow:TmRow C q l) (hc:c≤maxLen) (hlc:l.length≤c) (hr:CLe C (wC W)) (hE:EnvP W) :
 Calls prog 14 #[.slice q l.length c] W fun e w'=>∃s,e=.returned (.tuple #[.string s,.bool (wholeZ l)])∧bl s=exZ l∧Below W.heap.size W w':=by
 have hwh:=whole_p l (by have:=hf.1;omega) (fun t ht=>(hf.2 t ht).1) (c:=c) hrow hr hE
 have HT:=hid (fun (h:wholeZ l=true) W' (hb:Below W.heap.size W W')=>textW_p (W:=W') l hf h hrow hc hlc (hr.trans (ab_ hb)) (hE.all hb))
 have HBL:=hid (e7_ (exZ_lt (fun t ht=>(hf.2 t ht).2)))
 have HNO:=hid (show wholeZ l=false→exZ l=[] from fun h=>by unfold exZ;rw [h];rfl)
 obtain ⟨n,hn⟩:∃n,l.length=n:=⟨_,rfl⟩
 rw [hn] at hwh HT ⊢
 clear hf hrow hc hlc hr hE hn
 cases hb:wholeZ l with
 | false =>
  rw [hb] at hwh
  have HE:=hid (HNO.out hb)
  go_enter func14,ntmps14
  go_wp2_with (go_at_call 43;refine hwh.mono ?_;rintro e w1 ⟨rfl,hb1⟩)
  go_ret2
  exact ⟨_,rfl,by rw [HE.out];rfl,hb1⟩
 | true =>
  rw [hb] at hwh
  have HT2:=hid (HT.out hb)
  clear hb
  go_enter func14,ntmps14
  go_wp2_with (go_at_call 43;refine hwh.mono ?_;rintro e w1 ⟨rfl,hb1⟩)
  go_at_call 44
  refine (HT2.out _ hb1).mono ?_
  rintro e w2 ⟨rfl,hb2⟩
  go_wp2
  go_ret2
  exact ⟨_,rfl,HBL.out,hb1.trans (hb2.mono hb1.size)⟩
end
end Go.Proofs.YtpcniebkabkikaaGreatDoor
namespace Go.Proofs.YtpcniebkabkikaaGreatDoor
open Go Go.RowKit Go.Proofs.Mm
section
variable {C:Cl} {B b:Nat} {vp:Value} {t:List Nat} {W:World}
theorem pn_ (hc:PC C B) (h:PI C B b vp t W) {q:Option Addr} {c:Nat} (l:List DeZ) (hl:l.length≤9223372036854775807) (hrow:∀j (hj:j<l.length),∃g o,q=some ⟨g,o,none⟩∧C ⟨g,o+j*2,none⟩=some (.string l[j].name)∧C ⟨g,o+j*2+1,none⟩=some (.int .u64 (l[j].label:Nat)))
 {Ka Ki:Nat} {ca fi ci:Array Value} (ea:∀args w,(callFunc Ka args).run prog w=.ok (.enter Ka args) w) (ei:∀args w,(callFunc Ki args).run prog w=.ok (.enter Ki args) w)
 {J J':Nat→World→Prop} {S:Nat→Prop} (hS:∀i,S i→i<W.heap.size) {F A I:Nat→List Nat} (hF0:F 0=[]) (hF:∀k,k<l.length→F (k+1)=F k++A k++I k) (h0:J 0 W)
 (hJ:∀k wr w',J k wr→Below wr.heap.size wr w'→J k w')
 (hap:∀k wr t',k<l.length→PI C B b vp t' wr→J k wr→Kp B S W wr→Calls prog Ka ca wr fun e w'=>e=.returned (.tuple #[])∧PI C B b vp (t'++A k) w'∧J' k w'∧Kp B S wr w')
 (hit:∀k (hk:k<l.length) x wr t',l[k]=x→PI C B b vp t' wr→J' k wr→Kp B S W wr→Calls prog Ki (fi++#[.agg #[.string x.name,.int .u64 (x.label:Nat)]]++ci) wr fun e w'=>e=.returned (.tuple #[])∧PI C B b vp (t'++I k) w'∧J (k+1) w'∧Kp B S wr w') :
 Calls prog 105 #[.pointer (some ⟨b,0,none⟩),.func (.func Ka) #[] ca,.func (.func Ki) fi ci,.slice q l.length c] W fun e w'=>e=.returned (.tuple #[])∧PI C B b vp (t++F l.length) w'∧Kp B S W w':=by
 have HC:=hid hc
 have HP:=hid h
 have HR:=hid hrow
 have HS:=hid hS
 have HF:=hid hF
 have HF0:=hid hF0
 have HJ0:=hid h0
 have HJ:=hid hJ
 have HAP:=hid hap
 have HIT:=hid hit
 obtain ⟨n,hn⟩:∃n,l.length=n:=⟨_,rfl⟩
 have HN:=hid hn
 rw [hn] at hl ⊢
 clear h hrow hS hF hF0 h0 hJ hap hit hn hc
 go_enter func105,ntmps105
 go_wp2
 go_loopw [12] (fun i wr=>∃k:Nat,k≤n∧i=.int .i64 k∧Hid (PI C B b vp (t++F k) wr)∧Hid (J k wr)∧Hid (Kp B S W wr)) (fun i _=>n - (intOf i).toNat)
 case atStart=>exact ⟨0,Nat.zero_le _,rfl,hid (by rw [HF0.out,nlf];exact HP.out),HJ0,hid (Kp.refl _ _ _)⟩
 case round =>
  obtain ⟨k,hk,rfl,HPr,HJr,HKr⟩:=hrel
  by_cases hlt:k<n
  ·have hk':k<l.length:=by rw [HN.out];exact hlt
   obtain ⟨x,hx,g,o,rfl,a0,a1⟩:∃x,l[k]=x∧∃g o,q=some ⟨g,o,none⟩∧C ⟨g,o+k*2,none⟩=some (.string x.name)∧C ⟨g,o+k*2+1,none⟩=some (.int .u64 (x.label:Nat)):=⟨_,rfl,HR.out k hk'⟩
   have HK':=hid hk'
   have hit1:=hid (HIT.out k hk')
   have hit2:=hid (fun wr t'=>hit1.out x wr t' hx)
   have e0:wr.cell? ⟨g,o+k*2,none⟩=some (.string x.name):=HPr.out.rd _ _ a0
   clear a0
   have e1:wr.cell? ⟨g,o+k*2+1,none⟩=some (.int .u64 (x.label:Nat)):=HPr.out.rd _ _ a1
   clear a1
   obtain ⟨lg,acc,hw,hla,hx2⟩:=HPr.out.wr
   obtain ⟨c2,_⟩:=hw.raw
   have c3:=(hw.keep ((Below.refl wr.heap.size wr).alloc (Nat.le_refl _) (.cells #[.string x.name,.int .u64 (x.label:Nat)] 59))).raw.1
   have HW:=hid hw
   clear hw hk' hx hit1
   have hki:(k:Int)<(n:Int):=by omega
   rcases hx2 with ⟨rfl,hacc⟩|⟨rfl,hlong⟩
   ·clear hacc
    have HP1:=hid (HPr.out.alloc HC.out (.cells #[.string x.name,.int .u64 (x.label:Nat)] 59))
    have HJ1:=hid (HJ.out k _ _ HJr.out ((Below.refl _ _).alloc (Nat.le_refl _) (.cells #[.string x.name,.int .u64 (x.label:Nat)] 59)))
    have HK1:=hid (HKr.out.alloc HPr.out.low (.cells #[.string x.name,.int .u64 (x.label:Nat)] 59))
    have HB1:=hid (nwn wr (.cells #[.string x.name,.int .u64 (x.label:Nat)] 59))
    have HL1:=hid HKr.out.size
    clear HPr HJr HKr HW
    go_wp2_with fail
    generalize (wr.alloc _:World)=w0 at *
    refine (HAP.out k w0 _ HK'.out HP1.out HJ1.out HK1.out).mono ?_
    rintro e w1 ⟨rfl,hp1,hj1,hk1⟩
    have hb1:=hk1.heap HB1.out (fun e=>by have:=HS.out _ e;have:=HL1.out;omega) (by decide)
    have d0:=aa_ (j:=0) hb1 rfl
    have d1:=aa_ (j:=1) hb1 rfl
    have HP2:=hid hp1
    have HJ2:=hid hj1
    have HK2:=hid (HK1.out.trans hk1)
    clear hp1 hj1 hk1 hb1 HP1 HJ1 HK1
    go_wp2_with fail
    refine (hit2.out w1 _ HP2.out HJ2.out HK2.out).mono ?_
    rintro e w2 ⟨rfl,hp3,hj3,hk3⟩
    rw [nlb,nlb,←nlb (F k),←HF.out k HK'.out] at hp3
    have HP3:=hid hp3
    have HJ3:=hid hj3
    have HK3:=hid (HK2.out.trans hk3)
    clear hp3 hj3 hk3 HP2 HJ2 HK2
    go_wp2_with fail
    exact ⟨⟨k+1,by omega,by go_num,HP3,HJ3,HK3⟩,by simp [intOf];omega⟩
   ·have HLG:=hid hlong
    obtain ⟨r,hr⟩:=fl_ (l:=l) HF.out (Nat.le_of_lt HK'.out)
    rw [HN.out] at hr
    have HR2:=hid hr
    clear hlong hr
    go_wp2
    first|go_end0|refine bodyPost_ret (results_none rfl _ _ _) rfl ?_
    have hb:=(Below.refl wr.heap.size wr).alloc (Nat.le_refl _) (.cells #[.string x.name,.int .u64 (x.label:Nat)] 59)
    refine ⟨rfl,?_,HKr.out.alloc HPr.out.low _⟩
    rw [HR2.out,←nlb]
    exact (HPr.out.long HW.out hla HLG.out r).all HC.out hb
  ·obtain rfl:k=n:=by omega
   go_wp2
   first|go_end0|refine bodyPost_ret (results_none rfl _ _ _) rfl ?_
   exact ⟨rfl,HPr.out,HKr.out⟩
end
section
variable {C:Cl} {B b:Nat} {vp:Value} {t:List Nat} {W:World}
theorem sepDe_p (hc:PC C B) (h:PI C B b vp t W) {q:Option Addr} {c:Nat} (l:List DeZ) (hl:l.length≤9223372036854775807) (hrow:∀j (hj:j<l.length),∃g o,q=some ⟨g,o,none⟩∧C ⟨g,o+j*2,none⟩=some (.string l[j].name)∧C ⟨g,o+j*2+1,none⟩=some (.int .u64 (l[j].label:Nat)))
 {Ki:Nat} {fi ci:Array Value} (ei:∀args w,(callFunc Ki args).run prog w=.ok (.enter Ki args) w) {f:DeZ→List Nat}
 (hit:∀k (hk:k<l.length) x wr t',l[k]=x→PI C B b vp t' wr→Kp B (fun k=>k=b) W wr→Calls prog Ki (fi++#[.agg #[.string x.name,.int .u64 (x.label:Nat)]]++ci) wr fun e w'=>e=.returned (.tuple #[])∧PI C B b vp (t'++f x) w'∧Kp B (fun k=>k=b) wr w')
 {W1:World} (s:ByteArray) (hs:s.size≤140737488355327) {g:Nat} (hg:g=W.heap.size) (hp:PI C B b vp t W1) (hb:Below W.heap.size W W1) (hst:BtS b g s true W1) (hsz:W1.heap.size=g+3) :
 Calls prog 105 #[.pointer (some ⟨b,0,none⟩),.func (.func 104) #[] (btC g),.func (.func Ki) fi ci,.slice q l.length c] W1 fun e w'=>e=.returned (.tuple #[])∧PI C B b vp (t++sepZ (bl s) f l) w'∧Kp B (fun k=>k=b) W w':=by
 subst hg
 have hbW:b<W.heap.size:=by obtain ⟨_,_,hw,_⟩:=h.wr;obtain ⟨_,_,_,hw,_⟩:=hw;exact heap_lt hw
 have hm:∀{wr:World},Kp B (fun i=>i=b∨i=W.heap.size+2) W1 wr→Kp B (fun k=>k=b) W wr:=fun hk=>(Kp.all hb h.low).then hk (fun i e=>by rcases e with e|e <;> omega)
 refine (pn_ hc hp l hl hrow (Ka:=104) (ca:=btC W.heap.size) (enters_of func104 (by kernel_rfl) rfl) ei (J:=fun k w=>BtS b W.heap.size s (k == 0) w) (J':=fun _ w=>BtS b W.heap.size s false w)
  (S:=fun i=>i=b∨i=W.heap.size+2) (fun i e=>by rcases e with e | e <;> omega) (F:=fun k=>sepZ (bl s) f (l.take k)) (A:=fun k=>if (k == 0)=true then [] else bl s) (I:=fun k=>if h:k<l.length then f l[k] else []) (by simp [sepZ]) (fun k hk=>by simp only [hk,dif_pos];exact gf_ _ _ _ _ hk) hst
  (fun k wr w' h hb=>h.keep hb)
  (fun k wr t' _ hp hj _=>e3_ hc hp hs hj hbW)
  (fun k hk x wr t' hx hp hj hkp=>(hit k hk x wr t' hx hp (hm hkp)).mono ?_)).mono ?_
 ·rintro e w' ⟨rfl,hp',hk'⟩
  refine ⟨rfl,?_,?_,hk'.mono (fun i e=>.inl (.inl e))⟩
  ·simp only [hk,dif_pos,hx];exact hp'
  ·exact hj.kp hk' hbW
 ·rintro e w' ⟨rfl,hp',hk'⟩
  rw [List.take_length] at hp'
  exact ⟨rfl,hp',hm hk'⟩
theorem xp_ (hc:PC C B) (h:PI C B b vp t W) {q:Option Addr} {c:Nat} (l:List DeZ) (hl:l.length≤9223372036854775807) (hrow:∀j (hj:j<l.length),∃g o,q=some ⟨g,o,none⟩∧C ⟨g,o+j*2,none⟩=some (.string l[j].name)∧C ⟨g,o+j*2+1,none⟩=some (.int .u64 (l[j].label:Nat)))
 {Ki:Nat} {fi ci:Array Value} (ei:∀args w,(callFunc Ki args).run prog w=.ok (.enter Ki args) w) {f:DeZ→List Nat}
 (hit:∀k (hk:k<l.length) x wr t',l[k]=x→PI C B b vp t' wr→Kp B (fun k=>k=b) W wr→Calls prog Ki (fi++#[.agg #[.string x.name,.int .u64 (x.label:Nat)]]++ci) wr fun e w'=>e=.returned (.tuple #[])∧PI C B b vp (t'++f x) w'∧Kp B (fun k=>k=b) wr w') :
 Calls prog 116 #[.pointer (some ⟨b,0,none⟩),.func (.func Ki) fi ci,.slice q l.length c] W fun e w'=>e=.returned (.tuple #[])∧PI C B b vp (t++sepZ [44,32] f l) w'∧Kp B (fun k=>k=b) W w':=by
 have hbt:=es_ hc h ⟨#[44,32]⟩
 have HS:=hid (fun W1=>sepDe_p (W1:=W1) hc h (c:=c) l hl hrow ei hit ⟨#[44,32]⟩ (by decide) rfl)
 obtain ⟨n,hn⟩:∃n,l.length=n:=⟨_,rfl⟩
 rw [hn] at HS ⊢
 clear hrow hit hn h hc hl
 go_enter func116,ntmps116
 go_wp2_with (go_at_call 59;refine hbt.mono ?_)
 rintro e w1 ⟨rfl,hp1,hb1,hs1,hz1⟩
 have HX:=hid (HS.out w1 hp1 hb1 hs1 hz1)
 clear hp1 hb1 hs1 hz1 HS hbt
 unfold btC at HX ⊢
 go_wp2_with fail
 go_at_call 105
 refine HX.out.mono ?_
 rintro e w2 ⟨rfl,hp2,hk2⟩
 go_wp2_with fail
 first|go_end0|refine bodyPost_ret (results_none rfl _ _ _) rfl ?_
 exact ⟨rfl,hp2,hk2⟩
theorem ta_ (w:World):Calls prog 106 #[] w fun e w'=>e=.returned (.tuple #[])∧w=w':=by
 go_enter func106,ntmps106
 first|(go_wp2;go_end0)|go_end0
 exact ⟨rfl,rfl⟩
theorem tb_ (hc:PC C B) (h:PI C B b vp t W) {q:Option Addr} {c:Nat} (l:List DeZ) (hl:l.length≤9223372036854775807) (hrow:∀j (hj:j<l.length),∃g o,q=some ⟨g,o,none⟩∧C ⟨g,o+j*2,none⟩=some (.string l[j].name)∧C ⟨g,o+j*2+1,none⟩=some (.int .u64 (l[j].label:Nat)))
 {Ki:Nat} {fi ci:Array Value} (ei:∀args w,(callFunc Ki args).run prog w=.ok (.enter Ki args) w)
 {J:Nat→World→Prop} {S:Nat→Prop} (hS:∀i,S i→i<W.heap.size) {F I:Nat→List Nat} (hF0:F 0=[]) (hF:∀k,k<l.length→F (k+1)=F k++[]++I k) (h0:J 0 W)
 (hJ:∀k wr w',J k wr→Below wr.heap.size wr w'→J k w')
 (hit:∀k (hk:k<l.length) x wr t',l[k]=x→PI C B b vp t' wr→J k wr→Kp B S W wr→Calls prog Ki (fi++#[.agg #[.string x.name,.int .u64 (x.label:Nat)]]++ci) wr fun e w'=>e=.returned (.tuple #[])∧PI C B b vp (t'++I k) w'∧J (k+1) w'∧Kp B S wr w') :
 Calls prog 60 #[.pointer (some ⟨b,0,none⟩),.func (.func Ki) fi ci,.slice q l.length c] W fun e w'=>e=.returned (.tuple #[])∧PI C B b vp (t++F l.length) w'∧Kp B S W w':=by
 have HX:=hid (pn_ hc h (c:=c) l hl hrow (Ka:=106) (ca:=#[]) (enters_of func106 (by kernel_rfl) rfl) ei (J':=J) hS hF0 hF h0 hJ
  (fun k wr t' _ hp hj _=>(ta_ wr).mono fun e w' ⟨he,hw⟩=>by subst hw;exact ⟨he,by rw [nlf];exact hp,hj,Kp.refl _ _ _⟩) hit)
 obtain ⟨n,hn⟩:∃n,l.length=n:=⟨_,rfl⟩
 rw [hn] at HX ⊢
 clear hrow hit hn h hc hl hF hF0 h0 hJ hS
 go_enter func60,ntmps60
 go_wp2_with fail
 go_at_call 105
 refine HX.out.mono ?_
 rintro e w2 ⟨rfl,hp2,hk2⟩
 go_wp2_with fail
 first|go_end0|refine bodyPost_ret (results_none rfl _ _ _) rfl ?_
 exact ⟨rfl,hp2,hk2⟩
end
section
variable {C:Cl} {B b:Nat} {vp:Value} {t:List Nat} {W:World} {ns:List ByteArray}
def dlC (g:Nat):Array Value:=#[.pointer (some ⟨g,0,none⟩),.pointer (some ⟨g+1,0,none⟩)]
structure DlS (b g:Nat) (s:ByteArray) (w:World):Prop where
 c0:w.heap[g]?=some (.cells #[.pointer (some ⟨b,0,none⟩)] 75 (0,0))
 c1:w.heap[g+1]?=some (.cells #[.string s] 9 (0,0))
theorem DlS.kp {g:Nat} {s:ByteArray} {w w':World} (h:DlS b g s w) (hb:Kp B (fun k=>k=b) w w') (hn:b<g):DlS b g s w' :=
 ⟨hb.heap h.c0 (by omega) (by decide),hb.heap h.c1 (by omega) (by decide)⟩
theorem DlS.keep {g:Nat} {s:ByteArray} {w w':World} (h:DlS b g s w) (hb:Below w.heap.size w w'):DlS b g s w':=⟨(hb.block _ (heap_lt h.c0)).trans h.c0,(hb.block _ (heap_lt h.c1)).trans h.c1⟩
theorem dg_ (s:ByteArray) (W:World) :
 Calls prog 61 #[.pointer (some ⟨b,0,none⟩),.string s] W fun e w'=>e=.returned (.func (.func 107) #[] (dlC W.heap.size))∧Below W.heap.size W w'∧DlS b W.heap.size s w':=by
 have HB:=hid (((Below.refl W.heap.size W).alloc (Nat.le_refl _) (.cells #[.pointer (some ⟨b,0,none⟩)] 75)).alloc (by simp) (.cells #[.string s] 9))
 go_enter func61,ntmps61
 go_wp2
 go_ret
 refine ⟨rfl,HB.out,⟨?_,?_⟩⟩
 ·exact ad_ _ _ (nwn W _)
 ·have:=nwn (W.alloc (.cells #[.pointer (some ⟨b,0,none⟩)] 75)) (.cells #[.string s] 9)
  rw [World.size_alloc] at this
  exact this
theorem oi_ (hc:PC C B) (hv:PV C vp ns) (h:PI C B b vp t W) (d:DeZ) (hx:d.label<18446744073709551616) (hn:d.name.size≤140737488355327) {g:Nat} {s:ByteArray} (hs:s.size≤140737488355327) (hd:DlS b g s W) (hg:b<g) :
 Calls prog 107 (#[.agg #[.string d.name,.int .u64 (d.label:Nat)]]++dlC g) W fun e w'=>e=.returned (.tuple #[])∧PI C B b vp (t++kdZ (bl s) ns d) w'∧DlS b g s w'∧Kp B (fun k=>k=b) W w':=by
 have hbW:b<W.heap.size:=by obtain ⟨_,_,hw,_⟩:=h.wr;obtain ⟨_,_,_,hw,_⟩:=hw;exact heap_lt hw
 obtain ⟨A,hA⟩:∃A,Obj.cells #[.string d.name,.int .u64 (d.label:Nat)] 59=A:=⟨_,rfl⟩
 have hP1:=h.alloc hc A
 have hK:Kp B (fun k=>k=b) W (W.alloc A):=(Kp.refl B (fun k=>k=b) W).alloc h.low A
 have hA2:(W.alloc A).heap[W.heap.size]?=some A:=nwn W A
 have hD2:DlS b g s (W.alloc A):=hd.kp hK hg
 have hw:=aw_ hc hP1 s hs
 have HW:=hid hw
 have HA2:=hid hA2
 have HD2:=hid hD2
 have HK:=hid hK
 have HC:=hid hc
 have HV:=hid hv
 have a0:=aa_ hD2.c0 (j:=0) rfl
 have a1:=aa_ hD2.c1 (j:=0) rfl
 clear h hc hv hP1 hK hA2 hd hD2 hw
 subst hA
 unfold dlC
 go_enter func107,ntmps107
 go_wp2_with fail
 go_at_call 57
 refine HW.out.mono ?_
 rintro e w1 ⟨rfl,hp1,hk1⟩
 have hb1:=hk1.heap HA2.out (by omega) (by decide)
 have hd1:=HD2.out.kp hk1 hg
 have d0:=aa_ hb1 (j:=0) rfl
 have d1:=aa_ hb1 (j:=1) rfl
 have a0:=aa_ hd1.c0 (j:=0) rfl
 have HD1:=hid hd1
 have HL:=hid (w9_ HC.out HV.out hp1 d hx hn)
 have HK1:=hid (HK.out.trans hk1)
 clear hp1 hk1 hb1 hd1
 go_wp2_with fail
 go_at_call 108
 refine HL.out.mono ?_
 rintro e w2 ⟨rfl,hp2,hk2⟩
 have hd2:=HD1.out.kp hk2 hg
 have a0:=aa_ hd2.c0 (j:=0) rfl
 have HL2:=hid (aw_ HC.out hp2 ⟨#[59,10]⟩ (by decide))
 have HK2:=hid (HK1.out.trans hk2)
 have HD3:=hid hd2
 clear hp2 hk2 hd2
 go_wp2_with fail
 go_at_call 57
 refine HL2.out.mono ?_
 rintro e w3 ⟨rfl,hp3,hk3⟩
 go_wp2_with fail
 first|go_end0|refine bodyPost_ret (results_none rfl _ _ _) rfl ?_
 have h59:bl ⟨#[59,10]⟩=[59,10]:=rfl
 refine ⟨rfl,?_,HD3.out.kp hk3 hg,HK2.out.trans hk3⟩
 unfold kdZ
 simpa [nlb,h59] using hp3
theorem ig_ (hc:PC C B) (hv:PV C vp ns) (h:PI C B b vp t W) {q:Option Addr} {c:Nat} (l:List DeZ) (hl:l.length≤9223372036854775807) (hrow:∀j (hj:j<l.length),∃g o,q=some ⟨g,o,none⟩∧C ⟨g,o+j*2,none⟩=some (.string l[j].name)∧C ⟨g,o+j*2+1,none⟩=some (.int .u64 (l[j].label:Nat)))
 (hok:∀d∈l,d.label<18446744073709551616∧d.name.size≤140737488355327) {g:Nat} {s:ByteArray} (hs:s.size≤140737488355327) (hd:DlS b g s W) (hg:b<g) :
 Calls prog 60 #[.pointer (some ⟨b,0,none⟩),.func (.func 107) #[] (dlC g),.slice q l.length c] W fun e w'=>e=.returned (.tuple #[])∧PI C B b vp (t++l.flatMap (kdZ (bl s) ns)) w'∧Kp B (fun k=>k=b) W w':=by
 have hbW:b<W.heap.size:=by obtain ⟨_,_,hw,_⟩:=h.wr;obtain ⟨_,_,_,hw,_⟩:=hw;exact heap_lt hw
 refine (tb_ hc h (c:=c) l hl hrow (fi:=#[]) (ci:=dlC g) (enters_of func107 (by kernel_rfl) rfl) (J:=fun _ w=>DlS b g s w) (S:=fun k=>k=b) (fun i e=>by omega)
  (F:=fun k=>(l.take k).flatMap (kdZ (bl s) ns)) (I:=fun k=>if h:k<l.length then kdZ (bl s) ns l[k] else []) (by simp) (fun k hk=>by simp only [hk,dif_pos];exact jo_ _ _ _ hk) hd (fun _ _ _ h hb=>h.keep hb)
  (fun k hk x wr t' hx hp hj _=>?_)).mono ?_
 ·have hm:=hok x (by rw [←hx];exact List.getElem_mem hk)
  simp only [hk,dif_pos,hx]
  exact oi_ hc hv hp x hm.1 hm.2 hs hj hg
 ·rintro e w' ⟨rfl,hp',hk'⟩
  rw [List.take_length] at hp'
  exact ⟨rfl,hp',hk'⟩
end
section
variable {C:Cl} {B b:Nat} {vp:Value} {t:List Nat} {W:World}
theorem tc_ (hc:PC C B) (h:PI C B b vp t W) {q:Option Addr} {c:Nat} (l:List ByteArray) (hl:l.length≤9223372036854775807) (hrow:∀j (hj:j<l.length),∃g o,q=some ⟨g,o,none⟩∧C ⟨g,o+j,none⟩=some (.string l[j]))
 {Ka Ki:Nat} {ca fi ci:Array Value} (ea:∀args w,(callFunc Ka args).run prog w=.ok (.enter Ka args) w) (ei:∀args w,(callFunc Ki args).run prog w=.ok (.enter Ki args) w)
 {J J':Nat→World→Prop} {S:Nat→Prop} (hS:∀i,S i→i<W.heap.size) {F A I:Nat→List Nat} (hF0:F 0=[]) (hF:∀k,k<l.length→F (k+1)=F k++A k++I k) (h0:J 0 W)
 (hJ:∀k wr w',J k wr→Below wr.heap.size wr w'→J k w')
 (hap:∀k wr t',k<l.length→PI C B b vp t' wr→J k wr→Kp B S W wr→Calls prog Ka ca wr fun e w'=>e=.returned (.tuple #[])∧PI C B b vp (t'++A k) w'∧J' k w'∧Kp B S wr w')
 (hit:∀k (hk:k<l.length) x wr t',l[k]=x→PI C B b vp t' wr→J' k wr→Kp B S W wr→Calls prog Ki (fi++#[.string x]++ci) wr fun e w'=>e=.returned (.tuple #[])∧PI C B b vp (t'++I k) w'∧J (k+1) w'∧Kp B S wr w') :
 Calls prog 58 #[.pointer (some ⟨b,0,none⟩),.func (.func Ka) #[] ca,.func (.func Ki) fi ci,.slice q l.length c] W fun e w'=>e=.returned (.tuple #[])∧PI C B b vp (t++F l.length) w'∧Kp B S W w':=by
 have HC:=hid hc
 have HP:=hid h
 have HR:=hid hrow
 have HS:=hid hS
 have HF:=hid hF
 have HF0:=hid hF0
 have HJ0:=hid h0
 have HJ:=hid hJ
 have HAP:=hid hap
 have HIT:=hid hit
 obtain ⟨n,hn⟩:∃n,l.length=n:=⟨_,rfl⟩
 have HN:=hid hn
 rw [hn] at hl ⊢
 clear h hrow hS hF hF0 h0 hJ hap hit hn hc
 go_enter func58,ntmps58
 go_wp2
 go_loopw [12] (fun i wr=>∃k:Nat,k≤n∧i=.int .i64 k∧Hid (PI C B b vp (t++F k) wr)∧Hid (J k wr)∧Hid (Kp B S W wr)) (fun i _=>n - (intOf i).toNat)
 case atStart=>exact ⟨0,Nat.zero_le _,rfl,hid (by rw [HF0.out,nlf];exact HP.out),HJ0,hid (Kp.refl _ _ _)⟩
 case round =>
  obtain ⟨k,hk,rfl,HPr,HJr,HKr⟩:=hrel
  by_cases hlt:k<n
  ·have hk':k<l.length:=by rw [HN.out];exact hlt
   obtain ⟨x,hx,g,o,rfl,a0⟩:∃x,l[k]=x∧∃g o,q=some ⟨g,o,none⟩∧C ⟨g,o+k,none⟩=some (.string x):=⟨_,rfl,HR.out k hk'⟩
   have HK':=hid hk'
   have hit1:=hid (HIT.out k hk')
   have hit2:=hid (fun wr t'=>hit1.out x wr t' hx)
   have e0:wr.cell? ⟨g,o+k,none⟩=some (.string x):=HPr.out.rd _ _ a0
   clear a0
   obtain ⟨lg,acc,hw,hla,hx2⟩:=HPr.out.wr
   obtain ⟨c2,_⟩:=hw.raw
   have HW:=hid hw
   clear hw hk' hx hit1
   have hki:(k:Int)<(n:Int):=by omega
   rcases hx2 with ⟨rfl,hacc⟩|⟨rfl,hlong⟩
   ·clear hacc
    clear HW
    have HP1:=HPr
    have HJ1:=HJr
    have HK1:=HKr
    clear HPr HJr HKr
    go_wp2_with fail
    refine (HAP.out k wr _ HK'.out HP1.out HJ1.out HK1.out).mono ?_
    rintro e w1 ⟨rfl,hp1,hj1,hk1⟩
    have HP2:=hid hp1
    have HJ2:=hid hj1
    have HK2:=hid (HK1.out.trans hk1)
    clear hp1 hj1 hk1 HP1 HJ1 HK1
    go_wp2_with fail
    refine (hit2.out w1 _ HP2.out HJ2.out HK2.out).mono ?_
    rintro e w2 ⟨rfl,hp3,hj3,hk3⟩
    rw [nlb,nlb,←nlb (F k),←HF.out k HK'.out] at hp3
    have HP3:=hid hp3
    have HJ3:=hid hj3
    have HK3:=hid (HK2.out.trans hk3)
    clear hp3 hj3 hk3 HP2 HJ2 HK2
    go_wp2_with fail
    exact ⟨⟨k+1,by omega,by go_num,HP3,HJ3,HK3⟩,by simp [intOf];omega⟩
   ·have HLG:=hid hlong
    obtain ⟨r,hr⟩:=fl_ (l:=l) HF.out (Nat.le_of_lt HK'.out)
    rw [HN.out] at hr
    have HR2:=hid hr
    clear hlong hr
    go_wp2
    first|go_end0|refine bodyPost_ret (results_none rfl _ _ _) rfl ?_
    refine ⟨rfl,?_,HKr.out⟩
    rw [HR2.out,←nlb]
    exact HPr.out.long HW.out hla HLG.out r
  ·obtain rfl:k=n:=by omega
   go_wp2
   first|go_end0|refine bodyPost_ret (results_none rfl _ _ _) rfl ?_
   exact ⟨rfl,HPr.out,HKr.out⟩
end
section
variable {C:Cl} {B b:Nat} {vp:Value} {t:List Nat} {W:World}
theorem po_ (hc:PC C B) (h:PI C B b vp t W) {q:Option Addr} {c:Nat} (l:List ByteArray) (hl:l.length≤9223372036854775807) (hrow:∀j (hj:j<l.length),∃g o,q=some ⟨g,o,none⟩∧C ⟨g,o+j,none⟩=some (.string l[j]))
 {Ki:Nat} {fi ci:Array Value} (ei:∀args w,(callFunc Ki args).run prog w=.ok (.enter Ki args) w) {f:ByteArray→List Nat}
 (hit:∀k (hk:k<l.length) x wr t',l[k]=x→PI C B b vp t' wr→Kp B (fun k=>k=b) W wr→Calls prog Ki (fi++#[.string x]++ci) wr fun e w'=>e=.returned (.tuple #[])∧PI C B b vp (t'++f x) w'∧Kp B (fun k=>k=b) wr w')
 {W1:World} (s:ByteArray) (hs:s.size≤140737488355327) {g:Nat} (hg:g=W.heap.size) (hp:PI C B b vp t W1) (hb:Below W.heap.size W W1) (hst:BtS b g s true W1) (hsz:W1.heap.size=g+3) :
 Calls prog 58 #[.pointer (some ⟨b,0,none⟩),.func (.func 104) #[] (btC g),.func (.func Ki) fi ci,.slice q l.length c] W1 fun e w'=>e=.returned (.tuple #[])∧PI C B b vp (t++sepZ (bl s) f l) w'∧Kp B (fun k=>k=b) W w':=by
 subst hg
 have hbW:b<W.heap.size:=by obtain ⟨_,_,hw,_⟩:=h.wr;obtain ⟨_,_,_,hw,_⟩:=hw;exact heap_lt hw
 have hm:∀{wr:World},Kp B (fun i=>i=b∨i=W.heap.size+2) W1 wr→Kp B (fun k=>k=b) W wr:=fun hk=>(Kp.all hb h.low).then hk (fun i e=>by rcases e with e|e <;> omega)
 refine (tc_ hc hp l hl hrow (Ka:=104) (ca:=btC W.heap.size) (enters_of func104 (by kernel_rfl) rfl) ei (J:=fun k w=>BtS b W.heap.size s (k == 0) w) (J':=fun _ w=>BtS b W.heap.size s false w)
  (S:=fun i=>i=b∨i=W.heap.size+2) (fun i e=>by rcases e with e | e <;> omega) (F:=fun k=>sepZ (bl s) f (l.take k)) (A:=fun k=>if (k == 0)=true then [] else bl s) (I:=fun k=>if h:k<l.length then f l[k] else []) (by simp [sepZ]) (fun k hk=>by simp only [hk,dif_pos];exact gf_ _ _ _ _ hk) hst
  (fun k wr w' h hb=>h.keep hb)
  (fun k wr t' _ hp hj _=>e3_ hc hp hs hj hbW)
  (fun k hk x wr t' hx hp hj hkp=>(hit k hk x wr t' hx hp (hm hkp)).mono ?_)).mono ?_
 ·rintro e w' ⟨rfl,hp',hk'⟩
  refine ⟨rfl,?_,?_,hk'.mono (fun i e=>.inl (.inl e))⟩
  ·simp only [hk,dif_pos,hx];exact hp'
  ·exact hj.kp hk' hbW
 ·rintro e w' ⟨rfl,hp',hk'⟩
  rw [List.take_length] at hp'
  exact ⟨rfl,hp',hm hk'⟩
theorem td_ (hc:PC C B) (h:PI C B b vp t W) {q:Option Addr} {c:Nat} (l:List ByteArray) (hl:l.length≤9223372036854775807) (hrow:∀j (hj:j<l.length),∃g o,q=some ⟨g,o,none⟩∧C ⟨g,o+j,none⟩=some (.string l[j]))
 {Ki:Nat} {fi ci:Array Value} (ei:∀args w,(callFunc Ki args).run prog w=.ok (.enter Ki args) w) {f:ByteArray→List Nat}
 (hit:∀k (hk:k<l.length) x wr t',l[k]=x→PI C B b vp t' wr→Kp B (fun k=>k=b) W wr→Calls prog Ki (fi++#[.string x]++ci) wr fun e w'=>e=.returned (.tuple #[])∧PI C B b vp (t'++f x) w'∧Kp B (fun k=>k=b) wr w') :
 Calls prog 242 #[.pointer (some ⟨b,0,none⟩),.func (.func Ki) fi ci,.slice q l.length c] W fun e w'=>e=.returned (.tuple #[])∧PI C B b vp (t++sepZ [44,32] f l) w'∧Kp B (fun k=>k=b) W w':=by
 have hbt:=es_ hc h ⟨#[44,32]⟩
 have HS:=hid (fun W1=>po_ (W1:=W1) hc h (c:=c) l hl hrow ei hit ⟨#[44,32]⟩ (by decide) rfl)
 obtain ⟨n,hn⟩:∃n,l.length=n:=⟨_,rfl⟩
 rw [hn] at HS ⊢
 clear hrow hit hn h hc hl
 go_enter func242,ntmps242
 go_wp2_with (go_at_call 59;refine hbt.mono ?_)
 rintro e w1 ⟨rfl,hp1,hb1,hs1,hz1⟩
 have HX:=hid (HS.out w1 hp1 hb1 hs1 hz1)
 clear hp1 hb1 hs1 hz1 HS hbt
 unfold btC at HX ⊢
 go_wp2_with fail
 go_at_call 58
 refine HX.out.mono ?_
 rintro e w2 ⟨rfl,hp2,hk2⟩
 go_wp2_with fail
 first|go_end0|refine bodyPost_ret (results_none rfl _ _ _) rfl ?_
 exact ⟨rfl,hp2,hk2⟩
end
section
variable {C:Cl} {B b:Nat} {vp:Value} {t:List Nat} {W:World}
theorem xq_ (hc:PC C B) (h:PI C B b vp t W) {q:Option Addr} {c:Nat} (l:List (Value × List Nat)) (hl:l.length≤9223372036854775807) (hrow:∀j (hj:j<l.length),∃g o,q=some ⟨g,o,none⟩∧C ⟨g,o+j,none⟩=some (l[j].1))
 {Ka Ki:Nat} {ca fi ci:Array Value} (ea:∀args w,(callFunc Ka args).run prog w=.ok (.enter Ka args) w) (ei:∀args w,(callFunc Ki args).run prog w=.ok (.enter Ki args) w)
 {J J':Nat→World→Prop} {S:Nat→Prop} (hS:∀i,S i→i<W.heap.size) {F A I:Nat→List Nat} (hF0:F 0=[]) (hF:∀k,k<l.length→F (k+1)=F k++A k++I k) (h0:J 0 W)
 (hJ:∀k wr w',J k wr→Below wr.heap.size wr w'→J k w')
 (hap:∀k wr t',k<l.length→PI C B b vp t' wr→J k wr→Kp B S W wr→Calls prog Ka ca wr fun e w'=>e=.returned (.tuple #[])∧PI C B b vp (t'++A k) w'∧J' k w'∧Kp B S wr w')
 (hit:∀k (hk:k<l.length) x wr t',l[k]=x→PI C B b vp t' wr→J' k wr→Kp B S W wr→Calls prog Ki (fi++#[x.1]++ci) wr fun e w'=>e=.returned (.tuple #[])∧PI C B b vp (t'++I k) w'∧J (k+1) w'∧Kp B S wr w') :
 Calls prog 267 #[.pointer (some ⟨b,0,none⟩),.func (.func Ka) #[] ca,.func (.func Ki) fi ci,.slice q l.length c] W fun e w'=>e=.returned (.tuple #[])∧PI C B b vp (t++F l.length) w'∧Kp B S W w':=by
 have HC:=hid hc
 have HP:=hid h
 have HR:=hid hrow
 have HS:=hid hS
 have HF:=hid hF
 have HF0:=hid hF0
 have HJ0:=hid h0
 have HJ:=hid hJ
 have HAP:=hid hap
 have HIT:=hid hit
 obtain ⟨n,hn⟩:∃n,l.length=n:=⟨_,rfl⟩
 have HN:=hid hn
 rw [hn] at hl ⊢
 clear h hrow hS hF hF0 h0 hJ hap hit hn hc
 go_enter func267,ntmps267
 go_wp2
 go_loopw [12] (fun i wr=>∃k:Nat,k≤n∧i=.int .i64 k∧Hid (PI C B b vp (t++F k) wr)∧Hid (J k wr)∧Hid (Kp B S W wr)) (fun i _=>n - (intOf i).toNat)
 case atStart=>exact ⟨0,Nat.zero_le _,rfl,hid (by rw [HF0.out,nlf];exact HP.out),HJ0,hid (Kp.refl _ _ _)⟩
 case round =>
  obtain ⟨k,hk,rfl,HPr,HJr,HKr⟩:=hrel
  by_cases hlt:k<n
  ·have hk':k<l.length:=by rw [HN.out];exact hlt
   obtain ⟨x,hx,g,o,rfl,a0⟩:∃x,l[k]=x∧∃g o,q=some ⟨g,o,none⟩∧C ⟨g,o+k,none⟩=some (x.1):=⟨_,rfl,HR.out k hk'⟩
   have HK':=hid hk'
   have hit1:=hid (HIT.out k hk')
   have hit2:=hid (fun wr t'=>hit1.out x wr t' hx)
   have e0:wr.cell? ⟨g,o+k,none⟩=some (x.1):=HPr.out.rd _ _ a0
   clear a0
   obtain ⟨lg,acc,hw,hla,hx2⟩:=HPr.out.wr
   obtain ⟨c2,_⟩:=hw.raw
   have HW:=hid hw
   clear hw hk' hx hit1
   have hki:(k:Int)<(n:Int):=by omega
   rcases hx2 with ⟨rfl,hacc⟩|⟨rfl,hlong⟩
   ·clear hacc
    clear HW
    have HP1:=HPr
    have HJ1:=HJr
    have HK1:=HKr
    clear HPr HJr HKr
    go_wp2_with fail
    refine (HAP.out k wr _ HK'.out HP1.out HJ1.out HK1.out).mono ?_
    rintro e w1 ⟨rfl,hp1,hj1,hk1⟩
    have HP2:=hid hp1
    have HJ2:=hid hj1
    have HK2:=hid (HK1.out.trans hk1)
    clear hp1 hj1 hk1 HP1 HJ1 HK1
    go_wp2_with fail
    refine (hit2.out w1 _ HP2.out HJ2.out HK2.out).mono ?_
    rintro e w2 ⟨rfl,hp3,hj3,hk3⟩
    rw [nlb,nlb,←nlb (F k),←HF.out k HK'.out] at hp3
    have HP3:=hid hp3
    have HJ3:=hid hj3
    have HK3:=hid (HK2.out.trans hk3)
    clear hp3 hj3 hk3 HP2 HJ2 HK2
    go_wp2_with fail
    exact ⟨⟨k+1,by omega,by go_num,HP3,HJ3,HK3⟩,by simp [intOf];omega⟩
   ·have HLG:=hid hlong
    obtain ⟨r,hr⟩:=fl_ (l:=l) HF.out (Nat.le_of_lt HK'.out)
    rw [HN.out] at hr
    have HR2:=hid hr
    clear hlong hr
    go_wp2
    first|go_end0|refine bodyPost_ret (results_none rfl _ _ _) rfl ?_
    refine ⟨rfl,?_,HKr.out⟩
    rw [HR2.out,←nlb]
    exact HPr.out.long HW.out hla HLG.out r
  ·obtain rfl:k=n:=by omega
   go_wp2
   first|go_end0|refine bodyPost_ret (results_none rfl _ _ _) rfl ?_
   exact ⟨rfl,HPr.out,HKr.out⟩
end
section
variable {C:Cl} {B b:Nat} {vp:Value} {t:List Nat} {W:World}
theorem sepEx_p (hc:PC C B) (h:PI C B b vp t W) {q:Option Addr} {c:Nat} (l:List (Value × List Nat)) (hl:l.length≤9223372036854775807) (hrow:∀j (hj:j<l.length),∃g o,q=some ⟨g,o,none⟩∧C ⟨g,o+j,none⟩=some (l[j].1))
 {Ki:Nat} {fi ci:Array Value} (ei:∀args w,(callFunc Ki args).run prog w=.ok (.enter Ki args) w) {f:(Value × List Nat)→List Nat}
 (hit:∀k (hk:k<l.length) x wr t',l[k]=x→PI C B b vp t' wr→Kp B (fun k=>k=b) W wr→Calls prog Ki (fi++#[x.1]++ci) wr fun e w'=>e=.returned (.tuple #[])∧PI C B b vp (t'++f x) w'∧Kp B (fun k=>k=b) wr w')
 {W1:World} (s:ByteArray) (hs:s.size≤140737488355327) {g:Nat} (hg:g=W.heap.size) (hp:PI C B b vp t W1) (hb:Below W.heap.size W W1) (hst:BtS b g s true W1) (hsz:W1.heap.size=g+3) :
 Calls prog 267 #[.pointer (some ⟨b,0,none⟩),.func (.func 104) #[] (btC g),.func (.func Ki) fi ci,.slice q l.length c] W1 fun e w'=>e=.returned (.tuple #[])∧PI C B b vp (t++sepZ (bl s) f l) w'∧Kp B (fun k=>k=b) W w':=by
 subst hg
 have hbW:b<W.heap.size:=by obtain ⟨_,_,hw,_⟩:=h.wr;obtain ⟨_,_,_,hw,_⟩:=hw;exact heap_lt hw
 have hm:∀{wr:World},Kp B (fun i=>i=b∨i=W.heap.size+2) W1 wr→Kp B (fun k=>k=b) W wr:=fun hk=>(Kp.all hb h.low).then hk (fun i e=>by rcases e with e|e <;> omega)
 refine (xq_ hc hp l hl hrow (Ka:=104) (ca:=btC W.heap.size) (enters_of func104 (by kernel_rfl) rfl) ei (J:=fun k w=>BtS b W.heap.size s (k == 0) w) (J':=fun _ w=>BtS b W.heap.size s false w)
  (S:=fun i=>i=b∨i=W.heap.size+2) (fun i e=>by rcases e with e | e <;> omega) (F:=fun k=>sepZ (bl s) f (l.take k)) (A:=fun k=>if (k == 0)=true then [] else bl s) (I:=fun k=>if h:k<l.length then f l[k] else []) (by simp [sepZ]) (fun k hk=>by simp only [hk,dif_pos];exact gf_ _ _ _ _ hk) hst
  (fun k wr w' h hb=>h.keep hb)
  (fun k wr t' _ hp hj _=>e3_ hc hp hs hj hbW)
  (fun k hk x wr t' hx hp hj hkp=>(hit k hk x wr t' hx hp (hm hkp)).mono ?_)).mono ?_
 ·rintro e w' ⟨rfl,hp',hk'⟩
  refine ⟨rfl,?_,?_,hk'.mono (fun i e=>.inl (.inl e))⟩
  ·simp only [hk,dif_pos,hx];exact hp'
  ·exact hj.kp hk' hbW
 ·rintro e w' ⟨rfl,hp',hk'⟩
  rw [List.take_length] at hp'
  exact ⟨rfl,hp',hm hk'⟩
theorem xr_ (hc:PC C B) (h:PI C B b vp t W) {q:Option Addr} {c:Nat} (l:List (Value × List Nat)) (hl:l.length≤9223372036854775807) (hrow:∀j (hj:j<l.length),∃g o,q=some ⟨g,o,none⟩∧C ⟨g,o+j,none⟩=some (l[j].1))
 {Ki:Nat} {fi ci:Array Value} (ei:∀args w,(callFunc Ki args).run prog w=.ok (.enter Ki args) w) {f:(Value × List Nat)→List Nat}
 (hit:∀k (hk:k<l.length) x wr t',l[k]=x→PI C B b vp t' wr→Kp B (fun k=>k=b) W wr→Calls prog Ki (fi++#[x.1]++ci) wr fun e w'=>e=.returned (.tuple #[])∧PI C B b vp (t'++f x) w'∧Kp B (fun k=>k=b) wr w') :
 Calls prog 243 #[.pointer (some ⟨b,0,none⟩),.func (.func Ki) fi ci,.slice q l.length c] W fun e w'=>e=.returned (.tuple #[])∧PI C B b vp (t++sepZ [44,32] f l) w'∧Kp B (fun k=>k=b) W w':=by
 have hbt:=es_ hc h ⟨#[44,32]⟩
 have HS:=hid (fun W1=>sepEx_p (W1:=W1) hc h (c:=c) l hl hrow ei hit ⟨#[44,32]⟩ (by decide) rfl)
 obtain ⟨n,hn⟩:∃n,l.length=n:=⟨_,rfl⟩
 rw [hn] at HS ⊢
 clear hrow hit hn h hc hl
 go_enter func243,ntmps243
 go_wp2_with (go_at_call 59;refine hbt.mono ?_)
 rintro e w1 ⟨rfl,hp1,hb1,hs1,hz1⟩
 have HX:=hid (HS.out w1 hp1 hb1 hs1 hz1)
 clear hp1 hb1 hs1 hz1 HS hbt
 unfold btC at HX ⊢
 go_wp2_with fail
 go_at_call 267
 refine HX.out.mono ?_
 rintro e w2 ⟨rfl,hp2,hk2⟩
 go_wp2_with fail
 first|go_end0|refine bodyPost_ret (results_none rfl _ _ _) rfl ?_
 exact ⟨rfl,hp2,hk2⟩
end
def StrRow (C:Cl) (q:Option Addr) (l:List ByteArray):Prop:=∀j (hj:j<l.length),∃g o,q=some ⟨g,o,none⟩∧C ⟨g,o+j,none⟩=some (.string l[j])
structure ExRow (C:Cl) (q:Option Addr) (l:List (List TmZ)) (vs:List Value):Prop where
 len:vs.length=l.length
 cells:∀j (hj:j<vs.length),∃g o,q=some ⟨g,o,none⟩∧C ⟨g,o+j,none⟩=some vs[j]
 each:∀j (hj:j<vs.length) (hj':j<l.length),∃qe ce,vs[j]=.slice qe l[j].length ce∧TmRow C qe l[j]∧ce≤maxLen∧l[j].length≤ce
def StF (s:StZ):Prop:=s.name.size≤140737488355327∧(∀x∈s.targets,x.size≤140737488355327)∧(∀e∈s.exprs,ExF e)∧s.targets.length≤9223372036854775807∧s.exprs.length≤9223372036854775807
structure StRd (C:Cl) (x:StV) (s:StZ):Prop where
 k:x.k=s.kind
 nm:x.nm=s.name
 n1:x.n1=s.targets.length
 n2:x.n2=s.exprs.length
 tg:StrRow C x.q1 s.targets
 ex:∃vs,ExRow C x.q2 s.exprs vs
def stv (x:StV):Value:=.agg #[.int .i64 x.k,.string x.nm,.slice x.q1 x.n1 x.c1,.slice x.q2 x.n2 x.c2]
def stb (x:StV):Obj:=.cells #[.int .i64 x.k,.string x.nm,.slice x.q1 x.n1 x.c1,.slice x.q2 x.n2 x.c2] 57
section
variable {C:Cl} {B b:Nat} {vp:Value} {t:List Nat} {W:World}
theorem PI.b_lt (h:PI C B b vp t W):b<W.heap.size:=by obtain ⟨_,_,hw,_⟩:=h.wr;obtain ⟨_,_,_,hw,_⟩:=hw;exact heap_lt hw
theorem exprW_p (hc:PC C B) (h:PI C B b vp t W) (l:List TmZ) (hf:ExF l) {q:Option Addr} {c:Nat} (hrow:TmRow C q l) (hcm:c≤maxLen) (hlc:l.length≤c) :
 Calls prog 244 #[.pointer (some ⟨b,0,none⟩),.slice q l.length c] W fun e w'=>e=.returned (.tuple #[])∧PI C B b vp (t++exZ l) w'∧Kp B (fun k=>k=b) W w':=by
 have hx:=s9_ l hf hrow hcm hlc h.rd h.env
 have HL:=hid (xb_ hf)
 have HP:=hid h
 have HC:=hid hc
 clear h hc hrow hf hlc hcm
 generalize exZ l=tx at *
 generalize wholeZ l=wz at *
 generalize l.length=n at *
 go_enter func244,ntmps244
 go_wp2_with fail
 go_at_call 14
 refine hx.mono ?_
 rintro e w1 ⟨s,rfl,hbs,hb1⟩
 have hp1:=HP.out.all HC.out hb1
 have HW:=hid (aw_ HC.out hp1 s (by rw [←ae_,hbs];exact HL.out))
 have HK:=hid (Kp.all (S:=fun k=>k=b) hb1 HP.out.low)
 have HB:=hid hbs
 clear hp1 hb1 hx hbs
 go_wp2_with fail
 go_at_call 57
 refine HW.out.mono ?_
 rintro e w2 ⟨rfl,hp2,hk2⟩
 go_wp2_with fail
 first|go_end0|refine bodyPost_ret (results_none rfl _ _ _) rfl ?_
 exact ⟨rfl,by rw [HB.out] at hp2;exact hp2,HK.out.trans hk2⟩
theorem ExRow.at {q:Option Addr} {l:List (List TmZ)} {vs:List Value} (h:ExRow C q l vs) {j:Nat} (hj:j<l.length):∃g o qe ce,q=some ⟨g,o,none⟩∧C ⟨g,o+j,none⟩=some (.slice qe l[j].length ce)∧TmRow C qe l[j]∧ce≤maxLen∧l[j].length≤ce:=by
 obtain ⟨g,o,h1,h2⟩:=h.cells j (by rw [h.len];exact hj)
 obtain ⟨qe,ce,h3,h4⟩:=h.each j (by rw [h.len];exact hj) hj
 exact ⟨g,o,qe,ce,h1,by rw [h2,h3],h4⟩
theorem mj_ (W:World) (x:StV):Below W.heap.size W (W.alloc (stb x)):=(Below.refl _ _).alloc (Nat.le_refl _) _
theorem xs_ (x:StV) (s:StZ) (hx:StRd C x s) (hf:StF s) (k:Nat) (_hk:k≤1) (W:World) (hr:CLe C (wC W)) (hE:EnvP W) :
 Calls prog 207 #[stv x,.int .i64 (k:Int)] W fun e w'=>∃z,e=.returned (.string z)∧bl z=exAt s k∧Below W.heap.size W w':=by
 have HB:=hid (mj_ W x)
 obtain ⟨vs,hvs⟩:=hx.ex
 by_cases hlt:k<s.exprs.length
 ·obtain ⟨g,o,qe,ce,hq,hc,hrow,hcm,hlc⟩:=hvs.at hlt
  have hr1:=hr.trans (ab_ (mj_ W x))
  have hcell:(W.alloc (stb x)).cell? ⟨g,o+k,none⟩=_:=hr1 _ _ hc
  have he:=hid (s9_ s.exprs[k] (hf.2.2.1 _ (List.getElem_mem hlt)) (W:=W.alloc (stb x)) hrow hcm hlc hr1 (hE.all HB.out))
  have HA:=hid (show exAt s k=exZ s.exprs[k] from by unfold exAt;rw [List.getElem?_eq_getElem hlt])
  have hn2:=hx.n2
  obtain ⟨xk,xnm,q1,n1,c1,q2,n2,c2⟩:=x
  simp only at hq hn2
  have hkn:(k:Int)<(n2:Int):=by omega
  have hkn2:k<n2:=by omega
  subst hq
  clear hx hvs hrow hr1 hr hE hf hc hcm hlc hn2
  generalize exZ s.exprs[k]=tx at *
  generalize s.exprs[k].length=ln at *
  generalize wholeZ s.exprs[k]=wz at *
  clear hlt
  unfold stv stb at *
  go_enter func207,ntmps207
  go_wp2_with fail
  go_at_call 14
  refine he.out.mono ?_
  rintro e w1 ⟨z,rfl,hz,hb1⟩
  have HZ:=hid (show bl z=exAt s k from by rw [hz,HA.out])
  have HB1:=hid (ac_ HB.out hb1)
  clear hz hb1
  go_wp2
  go_ret
  exact ⟨z,rfl,HZ.out,HB1.out⟩
 ·have HA:=hid (show exAt s k=[] from by unfold exAt;rw [List.getElem?_eq_none (by omega)])
  have hn2:=hx.n2
  obtain ⟨xk,xnm,q1,n1,c1,q2,n2,c2⟩:=x
  simp only at hn2
  have hkn:¬(k:Int)<(n2:Int):=by omega
  have hkn2:(n2:Int)≤(k:Int):=by omega
  clear hx hvs hr hE hf hn2 hlt
  unfold stv stb at *
  go_enter func207,ntmps207
  go_wp2
  go_ret
  exact ⟨⟨#[]⟩,rfl,by rw [HA.out];rfl,HB.out⟩
end
section
variable {C:Cl} {B b:Nat} {vp:Value} {t:List Nat} {W:World}
def Wrote (C:Cl) (B b:Nat) (vp:Value) (W:World) (t:List Nat) (e:Ending) (w':World):Prop:=e=.returned (.tuple #[])∧PI C B b vp t w'∧Kp B (fun k=>k=b) W w'
theorem Wrote.mk {w1:World} {t':List Nat} (h:Kp B (fun k=>k=b) W w1) (hp:PI C B b vp t' w1):Wrote C B b vp W t' (.returned (.tuple #[])) w1:=⟨rfl,hp,h⟩
theorem te_ (hc:PC C B) (h:PI C B b vp t W) (x:StV) (s:StZ) (hx:StRd C x s) (hf:StF s) :
 Calls prog 206 #[.pointer (some ⟨b,0,none⟩),stv x] W (Wrote C B b vp W (t++tgZ s)):=by
 have hp1:=h.alloc hc (stb x)
 have HK:=hid ((Kp.refl B (fun k=>k=b) W).alloc h.low (stb x))
 have HL:=hid (td_ hc hp1 (c:=x.c1) s.targets hf.2.2.2.1 hx.tg (Ki:=57) (fi:=#[.pointer (some ⟨b,0,none⟩)]) (ci:=#[]) (enters_of func57 (by kernel_rfl) rfl) (f:=bl)
  (fun k hk z wr t' hz hp _=>aw_ hc hp z (hf.2.1 z (by rw [←hz];exact List.getElem_mem hk))))
 have hn1:=hx.n1
 obtain ⟨xk,xnm,q1,n1,c1,q2,n2,c2⟩:=x
 simp only at hn1
 subst hn1
 clear hp1 h hc hx hf
 unfold stv stb at *
 unfold tgZ
 generalize s.targets.length=n at *
 go_enter func206,ntmps206
 go_wp2_with fail
 go_at_call 242
 refine HL.out.mono ?_
 rintro e w2 ⟨rfl,hp2,hk2⟩
 go_wp2_with fail
 first|go_end0|refine bodyPost_ret (results_none rfl _ _ _) rfl ?_
 exact Wrote.mk (HK.out.trans hk2) hp2
def prs (vs:List Value) (l:List (List TmZ)):List (Value × List Nat):=vs.zip (l.map exZ)
theorem sep_prs (s:List Nat):∀(vs:List Value) (l:List (List TmZ)),vs.length=l.length→sepZ s Prod.snd (prs vs l)=sepZ s exZ l:=by
 have hm:∀(vs:List Value) (l:List (List TmZ)),vs.length=l.length→((prs vs l).flatMap fun y=>s++y.2)=l.flatMap fun y=>s++exZ y:=by
  intro vs
  induction vs with
  | nil=>intro l h;cases l with
   | nil=>rfl
   | cons x l=>cases h
  | cons v vs ih=>intro l h;cases l with
   | nil=>cases h
   | cons x l =>
    show (s++exZ x)++((prs vs l).flatMap fun y=>s++y.2)=_
    rw [ih l (by simpa using h)];rfl
 intro vs l h
 cases vs with
 | nil=>cases l with
  | nil=>rfl
  | cons x l=>cases h
 | cons v vs=>cases l with
  | nil=>cases h
  | cons x l =>
   show exZ x++((prs vs l).flatMap fun y=>s++y.2)=_
   rw [hm vs l (by simpa using h)];rfl
theorem prs_len {vs:List Value} {l:List (List TmZ)} (h:vs.length=l.length):(prs vs l).length=l.length:=by unfold prs;simp [h]
theorem zt_ {vs:List Value} {l:List (List TmZ)} {j:Nat} (h:j<(prs vs l).length) (h1:j<vs.length) (h2:j<l.length):(prs vs l)[j]=(vs[j],exZ l[j]):=by
 simp only [prs,List.getElem_zip,List.getElem_map]
theorem oj_ (hc:PC C B) (h:PI C B b vp t W) (s:StZ) (hf:StF s) {q:Option Addr} {c:Nat} {vs:List Value} (hx:ExRow C q s.exprs vs) :
 Calls prog 243 #[.pointer (some ⟨b,0,none⟩),.func (.func 244) #[.pointer (some ⟨b,0,none⟩)] #[],.slice q s.exprs.length c] W (Wrote C B b vp W (t++exsZ s)):=by
 have hl:=prs_len hx.len
 have:=xr_ hc h (q:=q) (c:=c) (prs vs s.exprs) (by rw [hl];exact hf.2.2.2.2) (fun j hj=>by
  obtain ⟨g,o,h1,h2⟩:=hx.cells j (by rw [hx.len,←hl];exact hj)
  exact ⟨g,o,h1,by rw [h2,zt_ hj (by rw [hx.len,←hl];exact hj) (by rw [←hl];exact hj)]⟩) (Ki:=244) (fi:=#[.pointer (some ⟨b,0,none⟩)]) (ci:=#[]) (enters_of func244 (by kernel_rfl) rfl) (f:=Prod.snd)
  (fun k hk x wr t' hxk hp _=>by
   have hk0:=hk
   rw [hl] at hk
   obtain ⟨qe,ce,h1,h2,h3,h4⟩:=hx.each k (by rw [hx.len];exact hk) hk
   have hpa:=zt_ hk0 (by rw [hx.len];exact hk) hk
   rw [hxk] at hpa
   have hx1:x.1=.slice qe s.exprs[k].length ce:=by rw [hpa,←h1]
   have hx2:x.2=exZ s.exprs[k]:=by rw [hpa]
   rw [hx1,hx2]
   exact exprW_p hc hp s.exprs[k] (hf.2.2.1 _ (List.getElem_mem hk)) h2 h3 h4)
 rw [hl,sep_prs _ _ _ hx.len] at this
 exact this
end
def sv (s:StZ) (q1:Option Addr) (c1:Nat) (q2:Option Addr) (c2:Nat):Value:=.agg #[.int .i64 s.kind,.string s.name,.slice q1 s.targets.length c1,.slice q2 s.exprs.length c2]
def so (s:StZ) (q1:Option Addr) (c1:Nat) (q2:Option Addr) (c2:Nat):Obj:=.cells #[.int .i64 s.kind,.string s.name,.slice q1 s.targets.length c1,.slice q2 s.exprs.length c2] 57
structure SR (C:Cl) (s:StZ) (q1 q2:Option Addr):Prop where
 tg:StrRow C q1 s.targets
 ex:∃vs,ExRow C q2 s.exprs vs
 f:StF s
section
variable {C:Cl} {B b:Nat} {vp:Value} {t:List Nat} {W:World}
theorem SR.rd {s:StZ} {q1 q2:Option Addr} (h:SR C s q1 q2) (c1 c2:Nat):StRd C ⟨s.kind,s.name,q1,s.targets.length,c1,q2,s.exprs.length,c2⟩ s:=⟨rfl,rfl,rfl,rfl,h.tg,h.ex⟩
theorem sv_eq (s:StZ) (q1:Option Addr) (c1:Nat) (q2:Option Addr) (c2:Nat):sv s q1 c1 q2 c2=stv ⟨s.kind,s.name,q1,s.targets.length,c1,q2,s.exprs.length,c2⟩:=rfl
theorem mk_ (hc:PC C B) (h:PI C B b vp t W) (s:StZ) {q1 q2:Option Addr} (c1 c2:Nat) (hs:SR C s q1 q2):Calls prog 206 #[.pointer (some ⟨b,0,none⟩),sv s q1 c1 q2 c2] W (Wrote C B b vp W (t++tgZ s)):=by
 rw [sv_eq]
 exact te_ hc h _ s (hs.rd c1 c2) hs.f
theorem ds_ (s:StZ) {q1 q2:Option Addr} (c1 c2:Nat) (hs:SR C s q1 q2) (k:Nat) (hk:k≤1) (W:World) (hr:CLe C (wC W)) (hE:EnvP W):Calls prog 207 #[sv s q1 c1 q2 c2,.int .i64 (k:Int)] W fun e w'=>∃z,e=.returned (.string z)∧bl z=exAt s k∧Below W.heap.size W w':=by
 rw [sv_eq]
 exact xs_ _ s (hs.rd c1 c2) hs.f k hk W hr hE
theorem ha_ (hc:PC C B) (h:PI C B b vp t W) (l:List ByteArray) (hl:l.length≤100) (hs:∀s∈l,s.size≤140737488355327) {L:Array Value} (hL:L=(l.map Value.string).toArray) {n:Nat} (hn:n=l.length) :
 Calls prog 111 #[.pointer (some ⟨b,0,none⟩),.slice (some ⟨W.heap.size,0,none⟩) n n] (W.alloc (.cells L 9)) (Wrote C B b vp W (t++l.flatMap bl)):=by
 subst hL;subst hn
 have hb:=h.b_lt
 refine (put_p (c:=l.length) hc (h.alloc hc _) l hl hs (nwn W _) (by omega)).mono ?_
 rintro e w' ⟨rfl,hp,hk⟩
 exact ⟨rfl,hp,((Kp.refl B (fun k=>k=b) W).alloc h.low _).trans hk⟩
theorem ay_ {w:World} {g:Nat} {s:StZ} {q1:Option Addr} {c1:Nat} {q2:Option Addr} {c2:Nat} (h:w.heap[g]?=some (so s q1 c1 q2 c2)):w.cell? ⟨g,0,none⟩=some (.int .i64 s.kind)∧w.cell? ⟨g,1,none⟩=some (.string s.name)∧w.cell? ⟨g,2,none⟩=some (.slice q1 s.targets.length c1)∧w.cell? ⟨g,3,none⟩=some (.slice q2 s.exprs.length c2):=⟨aa_ h rfl,aa_ h rfl,aa_ h rfl,aa_ h rfl⟩
theorem bo_ {w w':World} {g:Nat} {s:StZ} {q1:Option Addr} {c1:Nat} {q2:Option Addr} {c2:Nat} (h:w.heap[g]?=some (so s q1 c1 q2 c2)) (hk:Kp B (fun k=>k=b) w w') (hg:g≠b):w'.heap[g]?=some (so s q1 c1 q2 c2):=hk.heap h hg (by decide)
theorem tf_ {P:ByteArray→Prop} {a c:ByteArray} (h1:P a) (h2:P c):∀s∈[a,c],P s:=by
 intro s hs
 rcases List.mem_cons.1 hs with rfl|hs
 ·exact h1
 ·rw [List.mem_singleton] at hs;subst hs;exact h2
theorem xt_:bl ⟨#[32,61,32]⟩=[32,61,32]:=rfl
theorem xu_:bl ⟨#[40]⟩=[40]:=rfl
theorem xv_:bl ⟨#[41,59]⟩=[41,59]:=rfl
theorem xw_:bl ⟨#[114,101,116,117,114,110]⟩=[114,101,116,117,114,110]:=rfl
theorem xx_:bl ⟨#[32]⟩=[32]:=rfl
theorem xy_:bl ⟨#[59]⟩=[59]:=rfl
theorem call_p (hc:PC C B) (h:PI C B b vp t W) (s:StZ) {q1 q2:Option Addr} (c1 c2:Nat) (hs:SR C s q1 q2) :
 Calls prog 208 #[.pointer (some ⟨b,0,none⟩),sv s q1 c1 q2 c2] W (Wrote C B b vp W (t++((if s.targets.length=0 then [] else tgZ s++[32,61,32])++(bl s.name++([40]++(exsZ s++[41,59])))))):=by
 have hne:W.heap.size≠b:=by have:=h.b_lt;omega
 have HP1:=hid (h.alloc hc (so s q1 c1 q2 c2))
 have HK1:=hid ((Kp.refl B (fun k=>k=b) W).alloc h.low (so s q1 c1 q2 c2))
 have HX1:=hid (nwn W (so s q1 c1 q2 c2))
 have HC:=hid hc
 have HS:=hid hs
 obtain ⟨vs,hv⟩:=hs.ex
 have HV:=hid hv
 clear h hc hs hv
 unfold so at HP1 HK1 HX1
 unfold sv
 by_cases h0:s.targets.length=0
 ·skip
  rw [if_pos h0]
  have hgt:¬(0:Int)<(s.targets.length:Int):=by omega
  clear h0
  go_enter func208,ntmps208
  go_upto_region 1 with fail
  generalize (W.alloc _:World)=w1 at *
  obtain ⟨d0,d1,d2,d3⟩:=ay_ HX1.out
  have HW:=hid (ha_ HC.out HP1.out [s.name,⟨#[40]⟩] (by simp) (tf_ HS.out.f.1 (by decide)) (L:=#[.string s.name,.string ⟨#[40]⟩]) rfl (n:=2) rfl)
  go_wp2_with fail
  go_at_call 111
  refine HW.out.mono ?_
  rintro e w2 ⟨rfl,hp,hk⟩
  have HP2:=hid hp
  have HX2:=hid (bo_ HX1.out hk hne)
  have HK2:=hid (HK1.out.trans hk)
  clear hp hk d0 d1 d2 d3 HW HX1 HK1 HP1
  obtain ⟨d0,d1,d2,d3⟩:=ay_ HX2.out
  have HW:=hid (oj_ HC.out HP2.out s HS.out.f (c:=c2) HV.out)
  go_wp2_with fail
  go_at_call 243
  refine HW.out.mono ?_
  rintro e w3 ⟨rfl,hp,hk⟩
  have HP3:=hid hp
  have HX3:=hid (bo_ HX2.out hk hne)
  have HK3:=hid (HK2.out.trans hk)
  clear hp hk d0 d1 d2 d3 HW HX2 HK2 HP2
  obtain ⟨d0,d1,d2,d3⟩:=ay_ HX3.out
  have HW:=hid (aw_ HC.out HP3.out ⟨#[41,59]⟩ (by decide))
  go_wp2_with fail
  go_at_call 57
  refine HW.out.mono ?_
  rintro e w4 ⟨rfl,hp,hk⟩
  have HP4:=hid hp
  have HX4:=hid (bo_ HX3.out hk hne)
  have HK4:=hid (HK3.out.trans hk)
  clear hp hk d0 d1 d2 d3 HW HX3 HK3 HP3
  go_wp2_with fail
  first|go_end0|refine bodyPost_ret (results_none rfl _ _ _) rfl ?_
  refine ⟨rfl,?_,HK4.out⟩
  have hp:=HP4.out
  simpa [nlb,xt_,xu_,xv_,xw_,xx_,xy_] using hp
 ·skip
  rw [if_neg h0]
  have hgt:(0:Int)<(s.targets.length:Int):=by omega
  clear h0
  go_enter func208,ntmps208
  go_upto_region 1 with fail
  generalize (W.alloc _:World)=w1 at *
  obtain ⟨d0,d1,d2,d3⟩:=ay_ HX1.out
  have HW:=hid (mk_ HC.out HP1.out s c1 c2 HS.out)
  unfold sv at HW
  go_wp2_with fail
  go_at_call 206
  refine HW.out.mono ?_
  rintro e w2 ⟨rfl,hp,hk⟩
  have HP2:=hid hp
  have HX2:=hid (bo_ HX1.out hk hne)
  have HK2:=hid (HK1.out.trans hk)
  clear hp hk d0 d1 d2 d3 HW HX1 HK1 HP1
  obtain ⟨d0,d1,d2,d3⟩:=ay_ HX2.out
  have HW:=hid (aw_ HC.out HP2.out ⟨#[32,61,32]⟩ (by decide))
  go_wp2_with fail
  go_at_call 57
  refine HW.out.mono ?_
  rintro e w3 ⟨rfl,hp,hk⟩
  have HP3:=hid hp
  have HX3:=hid (bo_ HX2.out hk hne)
  have HK3:=hid (HK2.out.trans hk)
  clear hp hk d0 d1 d2 d3 HW HX2 HK2 HP2
  obtain ⟨d0,d1,d2,d3⟩:=ay_ HX3.out
  have HW:=hid (ha_ HC.out HP3.out [s.name,⟨#[40]⟩] (by simp) (tf_ HS.out.f.1 (by decide)) (L:=#[.string s.name,.string ⟨#[40]⟩]) rfl (n:=2) rfl)
  go_wp2_with fail
  go_at_call 111
  refine HW.out.mono ?_
  rintro e w4 ⟨rfl,hp,hk⟩
  have HP4:=hid hp
  have HX4:=hid (bo_ HX3.out hk hne)
  have HK4:=hid (HK3.out.trans hk)
  clear hp hk d0 d1 d2 d3 HW HX3 HK3 HP3
  obtain ⟨d0,d1,d2,d3⟩:=ay_ HX4.out
  have HW:=hid (oj_ HC.out HP4.out s HS.out.f (c:=c2) HV.out)
  go_wp2_with fail
  go_at_call 243
  refine HW.out.mono ?_
  rintro e w5 ⟨rfl,hp,hk⟩
  have HP5:=hid hp
  have HX5:=hid (bo_ HX4.out hk hne)
  have HK5:=hid (HK4.out.trans hk)
  clear hp hk d0 d1 d2 d3 HW HX4 HK4 HP4
  obtain ⟨d0,d1,d2,d3⟩:=ay_ HX5.out
  have HW:=hid (aw_ HC.out HP5.out ⟨#[41,59]⟩ (by decide))
  go_wp2_with fail
  go_at_call 57
  refine HW.out.mono ?_
  rintro e w6 ⟨rfl,hp,hk⟩
  have HP6:=hid hp
  have HX6:=hid (bo_ HX5.out hk hne)
  have HK6:=hid (HK5.out.trans hk)
  clear hp hk d0 d1 d2 d3 HW HX5 HK5 HP5
  go_wp2_with fail
  first|go_end0|refine bodyPost_ret (results_none rfl _ _ _) rfl ?_
  refine ⟨rfl,?_,HK6.out⟩
  have hp:=HP6.out
  simpa [nlb,xt_,xu_,xv_,xw_,xx_,xy_] using hp
theorem tg_ (hc:PC C B) (h:PI C B b vp t W) (s:StZ) {q1 q2:Option Addr} (c1 c2:Nat) (hs:SR C s q1 q2) :
 Calls prog 209 #[.pointer (some ⟨b,0,none⟩),sv s q1 c1 q2 c2] W (Wrote C B b vp W (t++([114,101,116,117,114,110]++((if s.exprs.length=0 then [] else [32]++exsZ s)++[59])))):=by
 have hne:W.heap.size≠b:=by have:=h.b_lt;omega
 have HP1:=hid (h.alloc hc (so s q1 c1 q2 c2))
 have HK1:=hid ((Kp.refl B (fun k=>k=b) W).alloc h.low (so s q1 c1 q2 c2))
 have HX1:=hid (nwn W (so s q1 c1 q2 c2))
 have HC:=hid hc
 have HS:=hid hs
 obtain ⟨vs,hv⟩:=hs.ex
 have HV:=hid hv
 clear h hc hs hv
 unfold so at HP1 HK1 HX1
 unfold sv
 by_cases h0:s.exprs.length=0
 ·skip
  rw [if_pos h0]
  have hgt:¬(0:Int)<(s.exprs.length:Int):=by omega
  clear h0
  go_enter func209,ntmps209
  go_upto_region 1 with fail
  generalize (W.alloc _:World)=w1 at *
  obtain ⟨d0,d1,d2,d3⟩:=ay_ HX1.out
  have HW:=hid (aw_ HC.out HP1.out ⟨#[114,101,116,117,114,110]⟩ (by decide))
  go_wp2_with fail
  go_at_call 57
  refine HW.out.mono ?_
  rintro e w2 ⟨rfl,hp,hk⟩
  have HP2:=hid hp
  have HX2:=hid (bo_ HX1.out hk hne)
  have HK2:=hid (HK1.out.trans hk)
  clear hp hk d0 d1 d2 d3 HW HX1 HK1 HP1
  obtain ⟨d0,d1,d2,d3⟩:=ay_ HX2.out
  have HW:=hid (aw_ HC.out HP2.out ⟨#[59]⟩ (by decide))
  go_wp2_with fail
  go_at_call 57
  refine HW.out.mono ?_
  rintro e w3 ⟨rfl,hp,hk⟩
  have HP3:=hid hp
  have HX3:=hid (bo_ HX2.out hk hne)
  have HK3:=hid (HK2.out.trans hk)
  clear hp hk d0 d1 d2 d3 HW HX2 HK2 HP2
  go_wp2_with fail
  first|go_end0|refine bodyPost_ret (results_none rfl _ _ _) rfl ?_
  refine ⟨rfl,?_,HK3.out⟩
  have hp:=HP3.out
  simpa [nlb,xt_,xu_,xv_,xw_,xx_,xy_] using hp
 ·skip
  rw [if_neg h0]
  have hgt:(0:Int)<(s.exprs.length:Int):=by omega
  clear h0
  go_enter func209,ntmps209
  go_upto_region 1 with fail
  generalize (W.alloc _:World)=w1 at *
  obtain ⟨d0,d1,d2,d3⟩:=ay_ HX1.out
  have HW:=hid (aw_ HC.out HP1.out ⟨#[114,101,116,117,114,110]⟩ (by decide))
  go_wp2_with fail
  go_at_call 57
  refine HW.out.mono ?_
  rintro e w2 ⟨rfl,hp,hk⟩
  have HP2:=hid hp
  have HX2:=hid (bo_ HX1.out hk hne)
  have HK2:=hid (HK1.out.trans hk)
  clear hp hk d0 d1 d2 d3 HW HX1 HK1 HP1
  obtain ⟨d0,d1,d2,d3⟩:=ay_ HX2.out
  have HW:=hid (aw_ HC.out HP2.out ⟨#[32]⟩ (by decide))
  go_wp2_with fail
  go_at_call 57
  refine HW.out.mono ?_
  rintro e w3 ⟨rfl,hp,hk⟩
  have HP3:=hid hp
  have HX3:=hid (bo_ HX2.out hk hne)
  have HK3:=hid (HK2.out.trans hk)
  clear hp hk d0 d1 d2 d3 HW HX2 HK2 HP2
  obtain ⟨d0,d1,d2,d3⟩:=ay_ HX3.out
  have HW:=hid (oj_ HC.out HP3.out s HS.out.f (c:=c2) HV.out)
  go_wp2_with fail
  go_at_call 243
  refine HW.out.mono ?_
  rintro e w4 ⟨rfl,hp,hk⟩
  have HP4:=hid hp
  have HX4:=hid (bo_ HX3.out hk hne)
  have HK4:=hid (HK3.out.trans hk)
  clear hp hk d0 d1 d2 d3 HW HX3 HK3 HP3
  obtain ⟨d0,d1,d2,d3⟩:=ay_ HX4.out
  have HW:=hid (aw_ HC.out HP4.out ⟨#[59]⟩ (by decide))
  go_wp2_with fail
  go_at_call 57
  refine HW.out.mono ?_
  rintro e w5 ⟨rfl,hp,hk⟩
  have HP5:=hid hp
  have HX5:=hid (bo_ HX4.out hk hne)
  have HK5:=hid (HK4.out.trans hk)
  clear hp hk d0 d1 d2 d3 HW HX4 HK4 HP4
  go_wp2_with fail
  first|go_end0|refine bodyPost_ret (results_none rfl _ _ _) rfl ?_
  refine ⟨rfl,?_,HK5.out⟩
  have hp:=HP5.out
  simpa [nlb,xt_,xu_,xv_,xw_,xx_,xy_] using hp
end
end Go.Proofs.YtpcniebkabkikaaGreatDoor
