/- A part of the proof of PrintBack: contracts and plain facts. -/
import Derived.Test.YtpcniebkabkikaaGreatDoorRows
import Derived.Deep.CondSized
import Derived.Handed
import Derived.ChangeShapes
import Derived.WideShapes
import Derived.LaidLaws
import Derived.WalkKit
import Derived.Test.YtpcniebkabkikaaGreatDoorProg
import Derived.Outline
import Derived.Lib.Hide
import Derived.LoopTactic
import Derived.Lib.Strings
import Derived.Lib.ParseIntBCases
import Derived.Shelf.Strings.Builder1
import Derived.Shelf.Strings.Builder2
import Derived.Shelf.Strings.BuilderF
import Derived.Shelf.Strings.BuilderK
import Derived.Shelf.Strconv.Itoa0
import Derived.Shelf.Strconv.Itoa1
import Derived.Shelf.LaysM
import Derived.Shelf.Strconv.Itoa2
import Derived.Shelf.Strconv.Itoa3
import Derived.Shelf.Strconv.Itoa4
import Derived.Shelf.Strconv.ParseIntEmpty
import Derived.Shelf.Strconv.Clone
import Derived.Shelf.Strconv.SyntaxError
import Derived.Shelf.LaysC
import Derived.Shelf.Strconv.ToError
import Derived.Shelf.Strconv.Lower
import Derived.Shelf.Strconv.ParseUint10
import Derived.Shelf.Strconv.ParseUint10Empty
import Derived.Shelf.Strconv.ParseUint10Any
import Derived.Shelf.Strconv.ParseInt10
import Derived.Shelf.Strconv.RangeError
import Derived.Shelf.Strconv.ToErrorRange
import Derived.Shelf.Strconv.ParseUintEmpty
import Derived.Shelf.Strconv.ParseUint10b64
import Derived.Shelf.Strconv.ParseUint10b32
import Derived.Shelf.Strconv.ParseUint10b16
import Derived.Shelf.Strconv.ParseUint10b8
import Derived.Shelf.Strconv.ParseUint10At
import Derived.Shelf.Strconv.ParseInt10At64
import Derived.Shelf.Strconv.ParseInt10At32
import Derived.Shelf.Strconv.ParseInt10At16
import Derived.Shelf.Strconv.ParseInt10At8
import Derived.Shelf.Strconv.ParseInt10All
import Derived.Shelf.Strconv.ParseIntPublic10
import Derived.Shelf.Strings.Prefix
import Derived.Shelf.Bits.Mul64
import Derived.Shelf.Strings.Repeat
import Derived.Shelf.Slices.Turned
import Derived.Shelf.Slices.Equal
import Derived.Ground.SlgnProg
import Derived.Shelf.SlicesE.Equal
import Derived.Below
import Derived.Laws.OwnMore
import Derived.RegionTactic
import Derived.Deep.Draws
set_option maxRecDepth 100000
set_option maxHeartbeats 8000000
open Go.Lib (hid)
open Go.Proofs.Tryz
open List renaming length_cons → nlk, cons_append → nli
namespace Go.Proofs.YtpcniebkabkikaaGreatDoor
open Go Go.ChangeShapes Go.WideShapes Go.ChangeAt
variable {H:Type} {enc:TypeId × Value→H}
theorem oc_ {a:Assume} {C:Checked} {os:Os} {f:FuncId} {fn:Func} {s:OpenSpec} {k:(H:Type)→List (DataW H)→Bool} (hk:s.cond=some k) {F:Stop.Interp} {conds:List PathCond} {apart fresh handsOn again:Bool} {X:World→Array Value→Prop}
 (hX:∀(w w':World) (args:Array Value),w.heap=w'.heap→X w args→X w' args)
 (own:ownKnob C.prog.godebug=none) (started:os.Started) (noInit:C.prog.inits.idxOf? f=none) (hfn:C.prog.funcs[f]?=some fn)
 (witness:∃(w:World) (tape:Tape) (i:Input),w.os=os∧(w.forCall tape i).Shaped C.prog∧i.vars=[]∧Input.okWide C.prog (w.forCall tape i) .any w.heap.size f i ∧
  ((s.pre enc C.prog fn conds apart (w.forCall tape i).memory i.args∧X (w.forCall tape i).memory i.args)∧sizedMet enc C.prog fn s apart (w.forCall tape i).memory i.args)∧a.holds C.prog (lone (Frame.enter C.prog f i.args .normal) [] (w.forCall tape i)))
 (contract:∀(W:World) (base:Nat) (args:Array Value) (ds gs:List (DataW H)) (before:List MemPlace),
  (∀(j:Nat) t v,fn.params[j]?=some t→args[j]?=some v→Value.okWide C.prog W .any base t v) →
  DataW.Whole enc C.prog fn.params.toList s.vars apart W args.toList ds gs before →
  conds.all (PathCond.test C.prog ⟨fn.params.toList,ds,s.bare.plain.varTypes C.prog,gs⟩)=true→k H (ds++gs)=true →
  (DataW.weightsEach C.prog (fn.params.toList++s.bare.plain.varTypes C.prog) (ds++gs)).all (·≤reachBytes)=true→X W args →
  a.holds C.prog (lone (Frame.enter C.prog f args .normal) [] W) →
  Calls C.prog f args W fun e W'=>∃v,e=.returned v∧(s.at F).post enc C.prog fn apart fresh handsOn again W args v W') :
 ReturnsInHanded a C os f .any (fun w args=>(s.pre enc C.prog fn conds apart w args∧X w args)∧sizedMet enc C.prog fn s apart w args) ((s.at F).post enc C.prog fn apart fresh handsOn again):=by
 refine returnsInHanded_of_calls own started noInit witness ?_
 intro w tape i _ _ _ hok hpre hholds
 obtain ⟨_,_,_,fn',hfn',_,_,_,_,hval⟩:=hok
 have e:fn'=fn:=Option.some.inj (hfn'.symm.trans hfn)
 subst e
 obtain ⟨ds,gs,before,hw,hc,hkk⟩:=(OpenSpec.pre_some hk conds apart _ _).1 hpre.1.1
 have hw':=DataW.Whole.of_heap (w':=w.forCall tape i) (by rfl) hw
 refine (contract (w.forCall tape i) w.heap.size i.args ds gs before hval hw' hc hkk (hpre.2.weights hw) (hX _ _ _ (by rfl) hpre.1.2) hholds).mono fun e W' ⟨v,he,hp⟩=>?_
 subst he
 exact ChangeSpec.post_blind hp
theorem mf_ {C:Checked} {os:Os} {f:FuncId} {fn:Func} {s:OpenSpec} {k:(H:Type)→List (DataW H)→Bool} (hk:s.cond=some k) {conds:List PathCond} {apart:Bool} {X:World→Array Value→Prop} (modest:Bool) (w0:World) (args:Array Value) (fuel:Nat) (hos:w0.os=os)
 (hsh:(w0.forCall (fun _ _=>0) ⟨#[],args,[]⟩).Shaped C.prog)
 (hok:Input.okWideB C.prog (w0.forCall (fun _ _=>0) ⟨#[],args,[]⟩) f ⟨#[],args,[]⟩=true)
 {x:List (DataW H) × List (DataW H) × List MemPlace} (hw:DataW.whole enc C.prog (w0.forCall (fun _ _=>0) ⟨#[],args,[]⟩).memory fn.params.toList s.vars apart args.toList fuel=some x)
 (hc:conds.all (PathCond.test C.prog ⟨fn.params.toList,x.1,s.bare.plain.varTypes C.prog,x.2.1⟩)=true) (hkk:k H (x.1++x.2.1)=true)
 (hsz:sizedMet enc C.prog fn s apart (w0.forCall (fun _ _=>0) ⟨#[],args,[]⟩).memory args)
 (hx:X (w0.forCall (fun _ _=>0) ⟨#[],args,[]⟩).memory args) :
 ∃(w:World) (tape:Tape) (i:Input),w.os=os∧(w.forCall tape i).Shaped C.prog∧i.vars=[]∧Input.okWide C.prog (w.forCall tape i) .any w.heap.size f i ∧
  ((s.pre enc C.prog fn conds apart (w.forCall tape i).memory i.args∧X (w.forCall tape i).memory i.args)∧sizedMet enc C.prog fn s apart (w.forCall tape i).memory i.args)∧({ modest:=modest }:Assume).holds C.prog (lone (Frame.enter C.prog f i.args .normal) [] (w.forCall tape i)) :=
 ⟨w0,fun _ _=>0,⟨#[],args,[]⟩,hos,hsh,(Input.okWide_of_okWideB (base:=0) hok).1,(Input.okWide_of_okWideB hok).2,⟨⟨(OpenSpec.pre_some hk _ _ _ _).2 ⟨_,_,_,DataW.Whole_of_whole hw,hc,hkk⟩,hx⟩,hsz⟩,by
  simp only [Assume.holds]
  exact ⟨by simp,by simp,fun _=>Modest.zero,by simp,by simp⟩⟩
end Go.Proofs.YtpcniebkabkikaaGreatDoor
namespace Go.Proofs.YtpcniebkabkikaaGreatDoor
def letterB (c:Nat):Bool:=(97≤c && c≤122) || c == 95
def digitB (c:Nat):Bool:=48≤c && c≤57
def blankB (c:Nat):Bool:=c == 9 || c == 10 || c == 13 || c == 32
def nameB (c:Nat):Bool:=letterB c || digitB c
def keysL:List (List Nat):=[[112,114,105,110,99,105,112,97,108],[103,108,111,98,97,108],[97,114,114,97,121],[99,104,97,110,110,101,108],[102,117,110,99],[118,97,114],[105,102],[101,108,115,101],[119,104,105,108,101],[115,101,110,100],[114,101,116,117,114,110]]
def mark1:List Nat:=[123,125,40,41,91,93,44,59,61,60,43,45,42,47,37,38,124,94,33,126]
def mark2:List (List Nat):=[[61,61],[33,61],[60,61],[60,60],[62,62]]
def wordL:List Nat→Nat × Nat
 | []=>(0,0)
 | c::l =>
  if letterB c then
   let n:=((c::l).takeWhile nameB).length
   (n,if (c::l).take n∈keysL then 2 else 1)
  else if digitB c then (((c::l).takeWhile digitB).length,3)
  else if (c::l).take 2∈mark2 then (2,4)
  else if c∈mark1 then (1,4)
  else (0,0)
theorem fn_ (l:List Nat):(wordL l).1≤l.length:=by
 cases l with
 | nil=>simp [wordL]
 | cons c l =>
  rw [wordL]
  split
  ·exact (List.takeWhile_sublist _).length_le
  ·split
   ·exact (List.takeWhile_sublist _).length_le
   ·split
    ·rename_i h
     have:((c::l).take 2).length=2:=by
      have:∀m∈mark2,m.length=2:=by decide
      exact this _ h
     rw [List.length_take] at this
     show 2≤_
     omega
    ·split
     ·simp
     ·simp
theorem bf_ {p:Nat→Bool}:∀(t r:List Nat),(∀x∈t,p x=true)→(∀c,r.head?=some c→p c=false)→(t++r).takeWhile p=t
 | [],r,_,hr=>by
  cases r with
  | nil=>rfl
  | cons c r=>simp [hr c rfl]
 | x::t,r,ht,hr=>by
  rw [nli,List.takeWhile_cons,if_pos (ht x (List.mem_cons_self ..)),bf_ t r (fun y hy=>ht y (List.mem_cons_of_mem _ hy)) hr]
theorem bd_ {p:Nat→Bool}:∀(l:List Nat) (x:Nat),x∈l.takeWhile p→p x=true
 | [],x,h=>absurd h (by simp)
 | c::l,x,h=>by
  rw [List.takeWhile_cons] at h
  split at h
  ·rename_i hc
   rcases List.mem_cons.1 h with rfl|h
   ·exact hc
   ·exact bd_ l x h
  ·simp at h
theorem as_ {p:Nat→Bool}:∀l:List Nat,l.take (l.takeWhile p).length=l.takeWhile p
 | []=>rfl
 | c::l=>by
  rw [List.takeWhile_cons]
  split
  ·rw [nlk,List.take_succ_cons,as_ l]
  ·rfl
theorem od_ (s:List Nat) (h:(wordL s).1≠0) (r:List Nat) (hr:r=[]∨∃r',r=32::r'):wordL (s.take (wordL s).1++r)=wordL s:=by
 cases s with
 | nil=>exact absurd rfl h
 | cons c l =>
  have hb:∀x,r.head?=some x→nameB x=false∧digitB x=false:=by
   intro x hx
   rcases hr with rfl|⟨r',rfl⟩
   ·simp at hx
   ·obtain rfl:32=x:=by simpa using hx
    decide
  by_cases hl:letterB c=true
  ·have hw:wordL (c::l)=(((c::l).takeWhile nameB).length,if (c::l).take ((c::l).takeWhile nameB).length∈keysL then 2 else 1):=by
    rw [wordL,if_pos hl]
   rw [hw]
   simp only
   rw [as_]
   have hn:nameB c=true:=by unfold nameB;rw [hl];rfl
   have hc:(c::l).takeWhile nameB=c::l.takeWhile nameB:=by rw [List.takeWhile_cons,if_pos hn]
   have hst:((c::l).takeWhile nameB++r).takeWhile nameB=(c::l).takeWhile nameB:=bf_ _ _ (fun x hx=>bd_ _ x hx) (fun x hx=>(hb x hx).1)
   rw [hc] at hst ⊢
   rw [nli] at hst ⊢
   rw [wordL,if_pos hl]
   simp only
   rw [hst,←nli,List.take_left]
  ·by_cases hd:digitB c=true
   ·have hw:wordL (c::l)=(((c::l).takeWhile digitB).length,3):=by rw [wordL,if_neg hl,if_pos hd]
    rw [hw]
    simp only
    rw [as_]
    have hc:(c::l).takeWhile digitB=c::l.takeWhile digitB:=by rw [List.takeWhile_cons,if_pos hd]
    have hst:((c::l).takeWhile digitB++r).takeWhile digitB=(c::l).takeWhile digitB:=bf_ _ _ (fun x hx=>bd_ _ x hx) (fun x hx=>(hb x hx).2)
    rw [hc] at hst ⊢
    rw [nli] at hst ⊢
    rw [wordL,if_neg hl,if_pos hd,hst]
   ·by_cases h2:(c::l).take 2∈mark2
    ·have hw:wordL (c::l)=(2,4):=by rw [wordL,if_neg hl,if_neg hd,if_pos h2]
     rw [hw]
     simp only
     obtain ⟨d,l',rfl⟩:∃d l',l=d::l':=by
      cases l with
      | nil=>exact absurd h2 (by simp [mark2])
      | cons d l'=>exact ⟨d,l',rfl⟩
     show wordL (c::d::r)=(2,4)
     rw [wordL,if_neg hl,if_neg hd,if_pos (by exact h2)]
    ·by_cases h1:c∈mark1
     ·have hw:wordL (c::l)=(1,4):=by rw [wordL,if_neg hl,if_neg hd,if_neg h2,if_pos h1]
      rw [hw]
      show wordL (c::r)=(1,4)
      rw [wordL,if_neg hl,if_neg hd,if_neg ?_,if_pos h1]
      rcases hr with rfl|⟨r',rfl⟩
      ·simp [mark2]
      ·simp [mark2]
     ·exact absurd (by rw [wordL,if_neg hl,if_neg hd,if_neg h2,if_neg h1]) h
structure Tok where
 kind:Nat
 text:List Nat
 value:Nat
 at_:Nat
deriving DecidableEq
def valD (l:List Nat):Nat:=l.foldl (fun n d=>10*n+(d - 48)) 0
abbrev most:Nat:=9223372036854775807
def inC (c:Nat):Bool:=c != 10
theorem h9_ (c:Nat) (r:List Nat) (n:Nat) (h:n≠0):((c::r).drop n).length<(c::r).length:=by
 rw [List.length_drop,nlk];omega
theorem ch_ (r:List Nat):((35::r).dropWhile inC).length<(35::r).length:=by
 rw [List.dropWhile_cons,if_pos (by decide)]
 have:=(List.dropWhile_sublist inC (l:=r)).length_le
 rw [nlk];omega
def scanL (l:List Nat) (a:Nat):List Tok × Nat × Nat :=
 match l with
 | []=>([],a,0)
 | c::r =>
  if blankB c then scanL r (a+1)
  else if _h35:c=35 then scanL ((c::r).dropWhile inC) (a+((c::r).takeWhile inC).length)
  else if _h0:(wordL (c::r)).1=0 then ([],a,40)
  else if (wordL (c::r)).2=1∧32<(wordL (c::r)).1 then ([],a,3)
  else if (wordL (c::r)).2=3∧most<valD ((c::r).take (wordL (c::r)).1) then ([],a,3)
  else
   (⟨(wordL (c::r)).2,(c::r).take (wordL (c::r)).1,if (wordL (c::r)).2=3 then valD ((c::r).take (wordL (c::r)).1) else 0,a⟩::(scanL ((c::r).drop (wordL (c::r)).1) (a+(wordL (c::r)).1)).1,
    (scanL ((c::r).drop (wordL (c::r)).1) (a+(wordL (c::r)).1)).2)
termination_by l.length
decreasing_by
 ·simp
 ·subst _h35;exact ch_ r
 ·exact h9_ c r _ _h0
theorem cw_ {c:Nat} (r:List Nat) (a:Nat) (h:blankB c=true):scanL (c::r) a=scanL r (a+1):=by rw [scanL,if_pos h]
structure Good (k:Nat) (t:List Nat) (v:Nat):Prop where
 word:wordL t=(t.length,k)
 ne:t≠[]
 head:∀c,t.head?=some c→blankB c=false∧c≠35
 name:¬(k=1∧32<t.length)
 num:¬(k=3∧most<valD t)
 val:v=if k=3 then valD t else 0
theorem sg_ {s:List Nat} (hs:(wordL s).1≠0) (hh:∀c,s.head?=some c→blankB c=false∧c≠35) (hn:¬((wordL s).2=1∧32<(wordL s).1)) (hu:¬((wordL s).2=3∧most<valD (s.take (wordL s).1))) :
 Good (wordL s).2 (s.take (wordL s).1) (if (wordL s).2=3 then valD (s.take (wordL s).1) else 0):=by
 have hle:=fn_ s
 have hlen:(s.take (wordL s).1).length=(wordL s).1:=by rw [List.length_take];omega
 have hag:=od_ s hs [] (.inl rfl)
 rw [List.append_nil] at hag
 refine ⟨by rw [hag,hlen],fun e=>hs (by rw [←hlen,e];rfl),fun c hc=>?_,by rw [hlen];exact hn,hu,rfl⟩
 cases s with
 | nil=>simp at hc
 | cons d s =>
  obtain ⟨n,hn'⟩:∃n,(wordL (d::s)).1=n+1:=⟨(wordL (d::s)).1 - 1,by omega⟩
  rw [hn',List.take_succ_cons] at hc
  obtain rfl:d=c:=by simpa using hc
  exact hh d rfl
theorem fo_:∀(N:Nat) (l:List Nat),l.length≤N→∀a,∀t∈(scanL l a).1,Good t.kind t.text t.value
 | _,[],_,a,t,ht=>by rw [scanL] at ht;exact absurd ht (by simp)
 | 0,c::r,h,_,_,_=>absurd h (by simp)
 | N+1,c::r,h,a,t,ht=>by
  have hr:r.length≤N:=by simpa using h
  rw [scanL] at ht
  split at ht
  ·exact fo_ N r hr _ t ht
  ·rename_i hb
   split at ht
   ·rename_i h35
    subst h35
    exact fo_ N _ (by have:=ch_ r;rw [nlk] at this;omega) _ t ht
   ·rename_i h35
    split at ht
    ·exact absurd ht (by simp)
    ·rename_i h0
     split at ht
     ·exact absurd ht (by simp)
     ·rename_i hn
      split at ht
      ·exact absurd ht (by simp)
      ·rename_i hu
       rcases List.mem_cons.1 ht with rfl|ht
       ·refine sg_ h0 (fun d hd=>?_) hn hu
        obtain rfl:c=d:=by simpa using hd
        exact ⟨by simpa using hb,h35⟩
       ·exact fo_ N _ (by have:=h9_ c r _ h0;rw [nlk] at this;omega) _ t ht
end Go.Proofs.YtpcniebkabkikaaGreatDoor
namespace Go.Proofs.YtpcniebkabkikaaGreatDoor
open Go Go.RowKit
theorem ret_bool {a b:Bool} (h:a=b):Ending.returned (.bool a)=.returned (.bool b):=by rw [h]
theorem c8_ {k:IntKind} {a b:Int} (h:a=b):Ending.returned (.int k a)=.returned (.int k b):=by rw [h]
theorem oe_ (c:Nat):letterB c=true↔(97≤c∧c≤122)∨c=95:=by simp [letterB]
theorem re_ (c:Nat):digitB c=true↔48≤c∧c≤57:=by simp [digitB]
theorem rf_ (c:Nat):blankB c=true↔c=9∨c=10∨c=13∨c=32:=by simp [blankB,or_assoc]
theorem ci_ (c:Nat) (w:World):Calls prog 215 #[.int .u8 (c:Int)] w fun e w'=>e=.returned (.bool (letterB c))∧w=w':=by
 have hc:(97≤c∧c≤122)∨c<97∨122<c:=by omega
 rcases hc with ⟨h1,h2⟩|h1|h1
 all_goals
  go_enter func215,ntmps215
  go_wp2
  all_goals
   go_ret
   exact ⟨ret_bool (by rw [Bool.eq_iff_iff,oe_];simp;omega),rfl⟩
theorem cb_ (c:Nat) (w:World):Calls prog 219 #[.int .u8 (c:Int)] w fun e w'=>e=.returned (.bool (digitB c))∧w=w':=by
 have hc:(48≤c∧c≤57)∨c<48∨57<c:=by omega
 rcases hc with ⟨h1,h2⟩|h1|h1
 all_goals
  go_enter func219,ntmps219
  go_wp2
  all_goals
   go_ret
   exact ⟨ret_bool (by rw [Bool.eq_iff_iff,re_];simp;omega),rfl⟩
theorem ia_ (c:Nat) (w:World):Calls prog 255 #[.int .u8 (c:Int)] w fun e w'=>e=.returned (.bool (blankB c))∧w=w':=by
 go_enter func255,ntmps255
 go_wp2
 all_goals
  go_ret
  exact ⟨ret_bool (by rw [Bool.eq_iff_iff,rf_];simp;omega),rfl⟩
theorem g6_ (c:Nat) (w:World):Calls prog 254 #[.int .u8 (c:Int)] w fun e w'=>e=.returned (.bool (inC c))∧w=w':=by
 go_enter func254,ntmps254
 go_wp2
 go_ret
 exact ⟨ret_bool (by rw [Bool.eq_iff_iff];simp [inC];omega),rfl⟩
theorem g7_ (c:Nat) (w:World):Calls prog 218 #[.int .u8 (c:Int)] w fun e w'=>e=.returned (.bool (nameB c))∧w=w':=by
 cases h:letterB c
 ·have h1:=h ▸ ci_ c w
  go_enter func218,ntmps218
  go_wp2_with (first|(go_at_call 215;refine h1.mono ?_;rintro e w' ⟨rfl,rfl⟩)|(go_at_call 219;refine (cb_ c _).mono ?_;rintro e w' ⟨rfl,rfl⟩))
  go_ret
  exact ⟨ret_bool (by simp [nameB,h]),rfl⟩
 ·have h1:=h ▸ ci_ c w
  go_enter func218,ntmps218
  go_wp2_with (first|(go_at_call 215;refine h1.mono ?_;rintro e w' ⟨rfl,rfl⟩)|(go_at_call 219;refine (cb_ c _).mono ?_;rintro e w' ⟨rfl,rfl⟩))
  go_ret
  exact ⟨ret_bool (by simp [nameB,h]),rfl⟩
end Go.Proofs.YtpcniebkabkikaaGreatDoor
namespace Go.Proofs.YtpcniebkabkikaaGreatDoor
theorem sh_ (l:List Nat) (d:Nat):valD (l++[d])=10*valD l+(d - 48):=by simp [valD,List.foldl_append]
theorem pd_:∀(l:List Nat) (n:Nat),n≤l.foldl (fun n d=>10*n+(d - 48)) n
 | [],n=>Nat.le_refl _
 | d::l,n=>by
  have:=pd_ l (10*n+(d - 48))
  rw [List.foldl_cons];omega
theorem dr_ {c:Nat} (h:digitB c=true):48≤c∧c≤57:=by
 unfold digitB at h
 simpa using h
end Go.Proofs.YtpcniebkabkikaaGreatDoor
namespace Go.Proofs.YtpcniebkabkikaaGreatDoor
open Go
def errL (l:List Nat):Nat :=
 if (wordL l).1=0 then 40 else if (wordL l).2=1∧32<(wordL l).1 then 3 else if (wordL l).2=3∧most<valD (l.take (wordL l).1) then 3 else 0
def valL (l:List Nat):Nat:=if (wordL l).2=3 then valD (l.take (wordL l).1) else 0
def gapL (l:List Nat):Nat:=if l.head?=some 35 then (l.takeWhile inC).length else (l.takeWhile blankB).length
theorem c9_ {p:Nat→Bool}:∀l:List Nat,l.drop (l.takeWhile p).length=l.dropWhile p
 | []=>rfl
 | c::r=>by
  rw [List.takeWhile_cons,List.dropWhile_cons]
  split
  ·rw [nlk,List.drop_succ_cons,c9_ r]
  ·rfl
theorem ib_:∀(l:List Nat) (a:Nat),scanL l a=scanL (l.dropWhile blankB) (a+(l.takeWhile blankB).length)
 | [],a=>by simp
 | c::r,a=>by
  by_cases h:blankB c=true
  ·rw [cw_ r a h,ib_ r (a+1),List.dropWhile_cons,if_pos h,List.takeWhile_cons,if_pos h,nlk]
   congr 1;omega
  ·rw [List.dropWhile_cons,if_neg h,List.takeWhile_cons,if_neg h];rfl
theorem ea_ (r:List Nat) (a:Nat):scanL (35::r) a=scanL ((35::r).dropWhile inC) (a+((35::r).takeWhile inC).length):=by
 rw [scanL,if_neg (by decide),dif_pos rfl]
theorem xd_ (l:List Nat) (a:Nat):scanL l a=scanL (l.drop (gapL l)) (a+gapL l):=by
 unfold gapL
 split
 ·rename_i h
  cases l with
  | nil=>simp at h
  | cons c r =>
   obtain rfl:c=35:=by simpa using h
   rw [c9_]
   exact ea_ r a
 ·rw [c9_]
  exact ib_ l a
theorem zp_ {c:Nat} {r:List Nat} (h:gapL (c::r)=0):blankB c=false∧c≠35:=by
 unfold gapL at h
 split at h
 ·rename_i h35
  obtain rfl:c=35:=by simpa using h35
  rw [List.takeWhile_cons,if_pos (by decide)] at h
  simp at h
 ·rename_i h35
  refine ⟨?_,by simpa using h35⟩
  rw [List.takeWhile_cons] at h
  split at h
  ·simp at h
  ·rename_i hb;simpa using hb
theorem kl_ {c:Nat} {r:List Nat} (a:Nat) (h:blankB c=false) (h35:c≠35) (he:errL (c::r)≠0):scanL (c::r) a=([],a,errL (c::r)):=by
 unfold errL at he ⊢
 rw [scanL,if_neg (by rw [h];simp),dif_neg h35]
 split
 ·rfl
 ·rename_i h0
  rw [if_neg h0] at he
  split
  ·rfl
  ·rename_i h1
   rw [if_neg h1] at he
   split
   ·rfl
   ·rename_i h2;rw [if_neg h2] at he;exact absurd rfl he
theorem ic_ {c:Nat} {r:List Nat} (a:Nat) (h:blankB c=false) (h35:c≠35) (he:errL (c::r)=0) :
 scanL (c::r) a=(⟨(wordL (c::r)).2,(c::r).take (wordL (c::r)).1,valL (c::r),a⟩::(scanL ((c::r).drop (wordL (c::r)).1) (a+(wordL (c::r)).1)).1,(scanL ((c::r).drop (wordL (c::r)).1) (a+(wordL (c::r)).1)).2):=by
 unfold errL at he
 rw [scanL,if_neg (by rw [h];simp),dif_neg h35]
 split
 ·rename_i h0;rw [if_pos h0] at he;exact absurd he (by decide)
 ·rename_i h0
  rw [if_neg h0] at he
  split
  ·rename_i h1;rw [if_pos h1] at he;exact absurd he (by decide)
  ·rename_i h1
   rw [if_neg h1] at he
   split
   ·rename_i h2;rw [if_pos h2] at he;exact absurd he (by decide)
   ·rfl
theorem fp_ {l:List Nat} (he:errL l=0):(wordL l).1≠0:=by
 intro h
 rw [errL,if_pos h] at he
 exact absurd he (by decide)
def itemsOf (r:List Tok × Nat × Nat):List (Tok × Nat):=r.1.map (fun t=>(t,0))++if r.2.2=0 then [] else [(⟨0,[],0,r.2.1⟩,r.2.2)]
theorem rg_ {c:Nat} {r:List Nat} (a:Nat) (h:blankB c=false) (h35:c≠35) (he:errL (c::r)=0) :
 itemsOf (scanL (c::r) a)=(⟨(wordL (c::r)).2,(c::r).take (wordL (c::r)).1,valL (c::r),a⟩,0)::itemsOf (scanL ((c::r).drop (wordL (c::r)).1) (a+(wordL (c::r)).1)):=by
 rw [ic_ a h h35 he];rfl
theorem si_ {c:Nat} {r:List Nat} (a:Nat) (h:blankB c=false) (h35:c≠35) (he:errL (c::r)≠0) :
 itemsOf (scanL (c::r) a)=[(⟨0,[],0,a⟩,errL (c::r))]:=by
 rw [kl_ a h h35 he,itemsOf];simp [he]
theorem sj_ (a:Nat):itemsOf (scanL [] a)=[]:=by rw [scanL];rfl
theorem sk_ (l:List Nat) (a:Nat):itemsOf (scanL l a)=itemsOf (scanL (l.drop (gapL l)) (a+gapL l)):=by rw [←xd_]
theorem df_:∀(N:Nat) (l:List Nat),l.length≤N→∀a,(scanL l a).1.length≤l.length
 | N,l,h,a=>by
  cases l with
  | nil=>rw [scanL];exact Nat.le_refl _
  | cons c r =>
   by_cases hb:blankB c=true
   ·cases N with
    | zero=>simp at h
    | succ N =>
     rw [cw_ r a hb]
     have:=df_ N r (by simpa using h) (a+1)
     rw [nlk];omega
   ·have hb:blankB c=false:=by simpa using hb
    by_cases h35:c=35
    ·cases N with
     | zero=>simp at h
     | succ N =>
      subst h35
      rw [ea_]
      have hl:=ch_ r
      have:=df_ N ((35::r).dropWhile inC) (by rw [nlk] at h hl;omega) (a+((35::r).takeWhile inC).length)
      omega
    ·by_cases he:errL (c::r)=0
     ·cases N with
      | zero=>simp at h
      | succ N =>
       rw [ic_ a hb h35 he]
       have hl:=h9_ c r _ (fp_ he)
       have:=df_ N ((c::r).drop (wordL (c::r)).1) (by rw [nlk] at h hl;omega) (a+(wordL (c::r)).1)
       show _+1≤_
       omega
     ·rw [kl_ a hb h35 he];simp
end Go.Proofs.YtpcniebkabkikaaGreatDoor
namespace Go.Proofs.YtpcniebkabkikaaGreatDoor
open Go Go.RowKit
def bl (s:ByteArray):List Nat:=s.data.toList.map UInt8.toNat
theorem ae_ (s:ByteArray):(bl s).length=s.size:=by simp [bl]
theorem id_ (s:ByteArray) (i:Nat) (h:i<s.size):(bl s)[i]?=some (s[i]).toNat:=by
 have h':i<s.data.toList.length:=by simpa using h
 rw [bl,List.getElem?_map,List.getElem?_eq_getElem h'];rfl
theorem jv_ (s:ByteArray) (a b:Nat):bl (s.extract a b)=((bl s).take b).drop a:=by
 unfold bl
 rw [ByteArray.data_extract,Array.toList_extract,List.extract_eq_take_drop,List.map_take,List.map_drop,List.drop_take]
theorem a3_ {s t:ByteArray} (h:bl s=bl t):s=t:=by
 unfold bl at h
 have:s.data.toList=t.data.toList:=(List.map_inj_right (fun a b h=>UInt8.toNat_inj.1 h)).1 h
 apply ByteArray.ext
 exact Array.ext' this
theorem hp_ {p:Nat→Bool} (l:List Nat) (k:Nat) (h:∀x∈l.take k,p x=true) (c:Nat) (hc:l[k]?=some c) (hp:p c=true):∀x∈l.take (k+1),p x=true:=by
 rw [List.take_add_one,hc]
 intro x hx
 rcases List.mem_append.1 hx with h1|h1
 ·exact h x h1
 ·obtain rfl:x=c:=by simpa using h1
  exact hp
theorem hq_ {p:Nat→Bool} (l:List Nat) (k:Nat) (h:∀x∈l.take k,p x=true) (c:Nat) (hc:l[k]?=some c) (hp:p c=false):(l.takeWhile p).length=k:=by
 have hk:k<l.length:=(List.getElem?_eq_some_iff.1 hc).1
 have h2:l=l.take k++l.drop k:=(List.take_append_drop k l).symm
 have hd:(l.drop k).head?=some c:=by rw [List.head?_drop];exact hc
 rw [h2, bf_ _ _ h (fun d hd' => by rw [hd] at hd'; obtain rfl : c = d := by simpa using hd'
                                    exact hp),List.length_take]
 omega
theorem km_ {p:Nat→Bool} (l:List Nat) (h:∀x∈l.take l.length,p x=true):(l.takeWhile p).length=l.length:=by
 rw [List.take_length] at h
 have:=bf_ l [] h (by simp)
 rw [List.append_nil] at this
 rw [this]
theorem xe_ (s:ByteArray) (hs:s.size≤9223372036854775806) (w:World) :
 Calls prog 217 #[.string s,.func (.func 218) #[] #[]] w fun e w'=>e=.returned (.int .i64 ((((bl s).takeWhile nameB).length:Nat):Int))∧w=w':=by
 go_enter func217,ntmps217
 go_wp2
 go_loop [8] (fun i=>∃k:Nat,k≤s.size∧i=.int .i64 k∧Hid (∀x∈(bl s).take k,nameB x=true)) (fun i=>s.size - (intOf i).toNat)
 case atStart=>exact ⟨0,Nat.zero_le _,rfl,hid (by simp)⟩
 case round =>
  obtain ⟨k,hk,rfl,H⟩:=hrel
  by_cases hlt:k<s.size
  ·have hb:=hid (id_ s k hlt)
   cases hp:nameB (s[k]).toNat
   ·have hcall:=hp ▸ g7_ (s[k]).toNat w
    have HP:=hid hp
    clear hp
    go_wp2_with (go_at_call 218;refine hcall.mono ?_;rintro e w' ⟨rfl,rfl⟩)
    go_ret
    exact ⟨c8_ (by rw [hq_ _ k H.out _ hb.out HP.out]),rfl⟩
   ·have hcall:=hp ▸ g7_ (s[k]).toNat w
    have HP:=hid hp
    clear hp
    go_wp2_with (go_at_call 218;refine hcall.mono ?_;rintro e w' ⟨rfl,rfl⟩)
    go_round
    case rel=>exact ⟨k+1,by omega,by go_num,hid (hp_ _ k H.out _ hb.out HP.out)⟩
    case measure=>simp [intOf];omega
  ·have hk':k=(bl s).length:=by rw [ae_];omega
   have HK:=hid hk'
   clear hk'
   go_wp2
   go_ret
   exact ⟨c8_ (by rw [km_ _ (HK.out ▸ H.out),ae_]),rfl⟩
theorem sl_ (s:ByteArray) (hs:s.size≤9223372036854775806) (w:World) :
 Calls prog 217 #[.string s,.func (.func 219) #[] #[]] w fun e w'=>e=.returned (.int .i64 ((((bl s).takeWhile digitB).length:Nat):Int))∧w=w':=by
 go_enter func217,ntmps217
 go_wp2
 go_loop [8] (fun i=>∃k:Nat,k≤s.size∧i=.int .i64 k∧Hid (∀x∈(bl s).take k,digitB x=true)) (fun i=>s.size - (intOf i).toNat)
 case atStart=>exact ⟨0,Nat.zero_le _,rfl,hid (by simp)⟩
 case round =>
  obtain ⟨k,hk,rfl,H⟩:=hrel
  by_cases hlt:k<s.size
  ·have hb:=hid (id_ s k hlt)
   cases hp:digitB (s[k]).toNat
   ·have hcall:=hp ▸ cb_ (s[k]).toNat w
    have HP:=hid hp
    clear hp
    go_wp2_with (go_at_call 219;refine hcall.mono ?_;rintro e w' ⟨rfl,rfl⟩)
    go_ret
    exact ⟨c8_ (by rw [hq_ _ k H.out _ hb.out HP.out]),rfl⟩
   ·have hcall:=hp ▸ cb_ (s[k]).toNat w
    have HP:=hid hp
    clear hp
    go_wp2_with (go_at_call 219;refine hcall.mono ?_;rintro e w' ⟨rfl,rfl⟩)
    go_round
    case rel=>exact ⟨k+1,by omega,by go_num,hid (hp_ _ k H.out _ hb.out HP.out)⟩
    case measure=>simp [intOf];omega
  ·have hk':k=(bl s).length:=by rw [ae_];omega
   have HK:=hid hk'
   clear hk'
   go_wp2
   go_ret
   exact ⟨c8_ (by rw [km_ _ (HK.out ▸ H.out),ae_]),rfl⟩
theorem xf_ (s:ByteArray) (hs:s.size≤9223372036854775806) (w:World) :
 Calls prog 217 #[.string s,.func (.func 254) #[] #[]] w fun e w'=>e=.returned (.int .i64 ((((bl s).takeWhile inC).length:Nat):Int))∧w=w':=by
 go_enter func217,ntmps217
 go_wp2
 go_loop [8] (fun i=>∃k:Nat,k≤s.size∧i=.int .i64 k∧Hid (∀x∈(bl s).take k,inC x=true)) (fun i=>s.size - (intOf i).toNat)
 case atStart=>exact ⟨0,Nat.zero_le _,rfl,hid (by simp)⟩
 case round =>
  obtain ⟨k,hk,rfl,H⟩:=hrel
  by_cases hlt:k<s.size
  ·have hb:=hid (id_ s k hlt)
   cases hp:inC (s[k]).toNat
   ·have hcall:=hp ▸ g6_ (s[k]).toNat w
    have HP:=hid hp
    clear hp
    go_wp2_with (go_at_call 254;refine hcall.mono ?_;rintro e w' ⟨rfl,rfl⟩)
    go_ret
    exact ⟨c8_ (by rw [hq_ _ k H.out _ hb.out HP.out]),rfl⟩
   ·have hcall:=hp ▸ g6_ (s[k]).toNat w
    have HP:=hid hp
    clear hp
    go_wp2_with (go_at_call 254;refine hcall.mono ?_;rintro e w' ⟨rfl,rfl⟩)
    go_round
    case rel=>exact ⟨k+1,by omega,by go_num,hid (hp_ _ k H.out _ hb.out HP.out)⟩
    case measure=>simp [intOf];omega
  ·have hk':k=(bl s).length:=by rw [ae_];omega
   have HK:=hid hk'
   clear hk'
   go_wp2
   go_ret
   exact ⟨c8_ (by rw [km_ _ (HK.out ▸ H.out),ae_]),rfl⟩
theorem sm_ (s:ByteArray) (hs:s.size≤9223372036854775806) (w:World) :
 Calls prog 217 #[.string s,.func (.func 255) #[] #[]] w fun e w'=>e=.returned (.int .i64 ((((bl s).takeWhile blankB).length:Nat):Int))∧w=w':=by
 go_enter func217,ntmps217
 go_wp2
 go_loop [8] (fun i=>∃k:Nat,k≤s.size∧i=.int .i64 k∧Hid (∀x∈(bl s).take k,blankB x=true)) (fun i=>s.size - (intOf i).toNat)
 case atStart=>exact ⟨0,Nat.zero_le _,rfl,hid (by simp)⟩
 case round =>
  obtain ⟨k,hk,rfl,H⟩:=hrel
  by_cases hlt:k<s.size
  ·have hb:=hid (id_ s k hlt)
   cases hp:blankB (s[k]).toNat
   ·have hcall:=hp ▸ ia_ (s[k]).toNat w
    have HP:=hid hp
    clear hp
    go_wp2_with (go_at_call 255;refine hcall.mono ?_;rintro e w' ⟨rfl,rfl⟩)
    go_ret
    exact ⟨c8_ (by rw [hq_ _ k H.out _ hb.out HP.out]),rfl⟩
   ·have hcall:=hp ▸ ia_ (s[k]).toNat w
    have HP:=hid hp
    clear hp
    go_wp2_with (go_at_call 255;refine hcall.mono ?_;rintro e w' ⟨rfl,rfl⟩)
    go_round
    case rel=>exact ⟨k+1,by omega,by go_num,hid (hp_ _ k H.out _ hb.out HP.out)⟩
    case measure=>simp [intOf];omega
  ·have hk':k=(bl s).length:=by rw [ae_];omega
   have HK:=hid hk'
   clear hk'
   go_wp2
   go_ret
   exact ⟨c8_ (by rw [km_ _ (HK.out ▸ H.out),ae_]),rfl⟩
theorem sn_ (s:ByteArray) (h0:0<s.size) (hs:s.size≤9223372036854775806) (w:World) :
 Calls prog 223 #[.string s] w fun e w'=>e=.returned (.int .i64 ((gapL (bl s):Nat):Int))∧w=w':=by
 have hg:=id_ s 0 h0
 rw [←List.head?_eq_getElem?] at hg
 have h1:=xf_ s hs w
 have h2:=sm_ s hs w
 by_cases hc:(s[0]).toNat=35
 ·have hn:(((s[0]).toNat:Int) == 35)=true:=by simp;omega
  have hgl:gapL (bl s)=((bl s).takeWhile inC).length:=by rw [gapL,hg,if_pos (by rw [hc])]
  have HG:=hid hgl
  clear hgl hg hc
  go_enter func223,ntmps223
  go_wp2_with (go_at_call 217;refine h1.mono ?_;rintro e w' ⟨rfl,rfl⟩)
  go_ret
  exact ⟨c8_ (by rw [HG.out]),rfl⟩
 ·have hn:(((s[0]).toNat:Int) == 35)=false:=by simp;omega
  have hgl:gapL (bl s)=((bl s).takeWhile blankB).length:=by rw [gapL,hg,if_neg (by simpa using hc)]
  have HG:=hid hgl
  clear hgl hg hc
  go_enter func223,ntmps223
  go_wp2_with (go_at_call 217;refine h2.mono ?_;rintro e w' ⟨rfl,rfl⟩)
  go_ret
  exact ⟨c8_ (by rw [HG.out]),rfl⟩
def marksL:List (List Nat):=mark1.map (fun c=>[c])++mark2
theorem a6_ {s:ByteArray} {L:List (List Nat)} {u:List UInt8} (h:bl s ∉ L) (hu:u.map UInt8.toNat∈L):(s.toList == u)=false:=by
 rw [beq_eq_false_iff_ne]
 intro e
 rw [Lib.toList_data] at e
 exact h (by unfold bl;rw [e];exact hu)
theorem g8_ (s:ByteArray) (h:bl s ∉ keysL) (w:World):Calls prog 251 #[.string s] w fun e w'=>e=.returned (.bool false)∧w=w':=by
 have e0:(s.toList == [112,114,105,110,99,105,112,97,108])=false:=a6_ h (by decide)
 have e1:(s.toList == [103,108,111,98,97,108])=false:=a6_ h (by decide)
 have e2:(s.toList == [97,114,114,97,121])=false:=a6_ h (by decide)
 have e3:(s.toList == [99,104,97,110,110,101,108])=false:=a6_ h (by decide)
 have e4:(s.toList == [102,117,110,99])=false:=a6_ h (by decide)
 have e5:(s.toList == [118,97,114])=false:=a6_ h (by decide)
 have e6:(s.toList == [105,102])=false:=a6_ h (by decide)
 have e7:(s.toList == [101,108,115,101])=false:=a6_ h (by decide)
 have e8:(s.toList == [119,104,105,108,101])=false:=a6_ h (by decide)
 have e9:(s.toList == [115,101,110,100])=false:=a6_ h (by decide)
 have e10:(s.toList == [114,101,116,117,114,110])=false:=a6_ h (by decide)
 clear h
 go_enter func251,ntmps251
 go_wp2
 go_ret
 exact ⟨rfl,rfl⟩
theorem kn_ (s:ByteArray) (h:bl s∈keysL) (w:World):Calls prog 251 #[.string s] w fun e w'=>e=.returned (.bool true)∧w=w':=by
 simp only [keysL,List.mem_cons,List.not_mem_nil,or_false] at h
 rcases h with h|h|h|h|h|h|h|h|h|h|h
 ·obtain rfl:s=⟨#[112,114,105,110,99,105,112,97,108]⟩:=a3_ (h.trans (by decide))
  clear h
  go_enter func251,ntmps251
  go_wp2
  go_ret
  exact ⟨rfl,rfl⟩
 ·obtain rfl:s=⟨#[103,108,111,98,97,108]⟩:=a3_ (h.trans (by decide))
  clear h
  go_enter func251,ntmps251
  go_wp2
  go_ret
  exact ⟨rfl,rfl⟩
 ·obtain rfl:s=⟨#[97,114,114,97,121]⟩:=a3_ (h.trans (by decide))
  clear h
  go_enter func251,ntmps251
  go_wp2
  go_ret
  exact ⟨rfl,rfl⟩
 ·obtain rfl:s=⟨#[99,104,97,110,110,101,108]⟩:=a3_ (h.trans (by decide))
  clear h
  go_enter func251,ntmps251
  go_wp2
  go_ret
  exact ⟨rfl,rfl⟩
 ·obtain rfl:s=⟨#[102,117,110,99]⟩:=a3_ (h.trans (by decide))
  clear h
  go_enter func251,ntmps251
  go_wp2
  go_ret
  exact ⟨rfl,rfl⟩
 ·obtain rfl:s=⟨#[118,97,114]⟩:=a3_ (h.trans (by decide))
  clear h
  go_enter func251,ntmps251
  go_wp2
  go_ret
  exact ⟨rfl,rfl⟩
 ·obtain rfl:s=⟨#[105,102]⟩:=a3_ (h.trans (by decide))
  clear h
  go_enter func251,ntmps251
  go_wp2
  go_ret
  exact ⟨rfl,rfl⟩
 ·obtain rfl:s=⟨#[101,108,115,101]⟩:=a3_ (h.trans (by decide))
  clear h
  go_enter func251,ntmps251
  go_wp2
  go_ret
  exact ⟨rfl,rfl⟩
 ·obtain rfl:s=⟨#[119,104,105,108,101]⟩:=a3_ (h.trans (by decide))
  clear h
  go_enter func251,ntmps251
  go_wp2
  go_ret
  exact ⟨rfl,rfl⟩
 ·obtain rfl:s=⟨#[115,101,110,100]⟩:=a3_ (h.trans (by decide))
  clear h
  go_enter func251,ntmps251
  go_wp2
  go_ret
  exact ⟨rfl,rfl⟩
 ·obtain rfl:s=⟨#[114,101,116,117,114,110]⟩:=a3_ (h.trans (by decide))
  clear h
  go_enter func251,ntmps251
  go_wp2
  go_ret
  exact ⟨rfl,rfl⟩
theorem ie_ (s:ByteArray) (h:bl s ∉ marksL) (w:World):Calls prog 253 #[.string s] w fun e w'=>e=.returned (.bool false)∧w=w':=by
 have e0:(s.toList == [123])=false:=a6_ h (by decide)
 have e1:(s.toList == [125])=false:=a6_ h (by decide)
 have e2:(s.toList == [40])=false:=a6_ h (by decide)
 have e3:(s.toList == [41])=false:=a6_ h (by decide)
 have e4:(s.toList == [91])=false:=a6_ h (by decide)
 have e5:(s.toList == [93])=false:=a6_ h (by decide)
 have e6:(s.toList == [44])=false:=a6_ h (by decide)
 have e7:(s.toList == [59])=false:=a6_ h (by decide)
 have e8:(s.toList == [61])=false:=a6_ h (by decide)
 have e9:(s.toList == [61,61])=false:=a6_ h (by decide)
 have e10:(s.toList == [33,61])=false:=a6_ h (by decide)
 have e11:(s.toList == [60])=false:=a6_ h (by decide)
 have e12:(s.toList == [60,61])=false:=a6_ h (by decide)
 have e13:(s.toList == [43])=false:=a6_ h (by decide)
 have e14:(s.toList == [45])=false:=a6_ h (by decide)
 have e15:(s.toList == [42])=false:=a6_ h (by decide)
 have e16:(s.toList == [47])=false:=a6_ h (by decide)
 have e17:(s.toList == [37])=false:=a6_ h (by decide)
 have e18:(s.toList == [38])=false:=a6_ h (by decide)
 have e19:(s.toList == [124])=false:=a6_ h (by decide)
 have e20:(s.toList == [94])=false:=a6_ h (by decide)
 have e21:(s.toList == [60,60])=false:=a6_ h (by decide)
 have e22:(s.toList == [62,62])=false:=a6_ h (by decide)
 have e23:(s.toList == [33])=false:=a6_ h (by decide)
 have e24:(s.toList == [126])=false:=a6_ h (by decide)
 clear h
 go_enter func253,ntmps253
 go_wp2
 go_ret
 exact ⟨rfl,rfl⟩
theorem jw_ (s:ByteArray) (h:bl s∈marksL) (w:World):Calls prog 253 #[.string s] w fun e w'=>e=.returned (.bool true)∧w=w':=by
 simp only [marksL,mark1,mark2,List.map_cons,List.map_nil,nli,List.nil_append,List.mem_cons,List.not_mem_nil,or_false] at h
 rcases h with h|h|h|h|h|h|h|h|h|h|h|h|h|h|h|h|h|h|h|h|h|h|h|h|h
 ·obtain rfl:s=⟨#[123]⟩:=a3_ (h.trans (by decide))
  clear h
  go_enter func253,ntmps253
  go_wp2
  go_ret
  exact ⟨rfl,rfl⟩
 ·obtain rfl:s=⟨#[125]⟩:=a3_ (h.trans (by decide))
  clear h
  go_enter func253,ntmps253
  go_wp2
  go_ret
  exact ⟨rfl,rfl⟩
 ·obtain rfl:s=⟨#[40]⟩:=a3_ (h.trans (by decide))
  clear h
  go_enter func253,ntmps253
  go_wp2
  go_ret
  exact ⟨rfl,rfl⟩
 ·obtain rfl:s=⟨#[41]⟩:=a3_ (h.trans (by decide))
  clear h
  go_enter func253,ntmps253
  go_wp2
  go_ret
  exact ⟨rfl,rfl⟩
 ·obtain rfl:s=⟨#[91]⟩:=a3_ (h.trans (by decide))
  clear h
  go_enter func253,ntmps253
  go_wp2
  go_ret
  exact ⟨rfl,rfl⟩
 ·obtain rfl:s=⟨#[93]⟩:=a3_ (h.trans (by decide))
  clear h
  go_enter func253,ntmps253
  go_wp2
  go_ret
  exact ⟨rfl,rfl⟩
 ·obtain rfl:s=⟨#[44]⟩:=a3_ (h.trans (by decide))
  clear h
  go_enter func253,ntmps253
  go_wp2
  go_ret
  exact ⟨rfl,rfl⟩
 ·obtain rfl:s=⟨#[59]⟩:=a3_ (h.trans (by decide))
  clear h
  go_enter func253,ntmps253
  go_wp2
  go_ret
  exact ⟨rfl,rfl⟩
 ·obtain rfl:s=⟨#[61]⟩:=a3_ (h.trans (by decide))
  clear h
  go_enter func253,ntmps253
  go_wp2
  go_ret
  exact ⟨rfl,rfl⟩
 ·obtain rfl:s=⟨#[60]⟩:=a3_ (h.trans (by decide))
  clear h
  go_enter func253,ntmps253
  go_wp2
  go_ret
  exact ⟨rfl,rfl⟩
 ·obtain rfl:s=⟨#[43]⟩:=a3_ (h.trans (by decide))
  clear h
  go_enter func253,ntmps253
  go_wp2
  go_ret
  exact ⟨rfl,rfl⟩
 ·obtain rfl:s=⟨#[45]⟩:=a3_ (h.trans (by decide))
  clear h
  go_enter func253,ntmps253
  go_wp2
  go_ret
  exact ⟨rfl,rfl⟩
 ·obtain rfl:s=⟨#[42]⟩:=a3_ (h.trans (by decide))
  clear h
  go_enter func253,ntmps253
  go_wp2
  go_ret
  exact ⟨rfl,rfl⟩
 ·obtain rfl:s=⟨#[47]⟩:=a3_ (h.trans (by decide))
  clear h
  go_enter func253,ntmps253
  go_wp2
  go_ret
  exact ⟨rfl,rfl⟩
 ·obtain rfl:s=⟨#[37]⟩:=a3_ (h.trans (by decide))
  clear h
  go_enter func253,ntmps253
  go_wp2
  go_ret
  exact ⟨rfl,rfl⟩
 ·obtain rfl:s=⟨#[38]⟩:=a3_ (h.trans (by decide))
  clear h
  go_enter func253,ntmps253
  go_wp2
  go_ret
  exact ⟨rfl,rfl⟩
 ·obtain rfl:s=⟨#[124]⟩:=a3_ (h.trans (by decide))
  clear h
  go_enter func253,ntmps253
  go_wp2
  go_ret
  exact ⟨rfl,rfl⟩
 ·obtain rfl:s=⟨#[94]⟩:=a3_ (h.trans (by decide))
  clear h
  go_enter func253,ntmps253
  go_wp2
  go_ret
  exact ⟨rfl,rfl⟩
 ·obtain rfl:s=⟨#[33]⟩:=a3_ (h.trans (by decide))
  clear h
  go_enter func253,ntmps253
  go_wp2
  go_ret
  exact ⟨rfl,rfl⟩
 ·obtain rfl:s=⟨#[126]⟩:=a3_ (h.trans (by decide))
  clear h
  go_enter func253,ntmps253
  go_wp2
  go_ret
  exact ⟨rfl,rfl⟩
 ·obtain rfl:s=⟨#[61,61]⟩:=a3_ (h.trans (by decide))
  clear h
  go_enter func253,ntmps253
  go_wp2
  go_ret
  exact ⟨rfl,rfl⟩
 ·obtain rfl:s=⟨#[33,61]⟩:=a3_ (h.trans (by decide))
  clear h
  go_enter func253,ntmps253
  go_wp2
  go_ret
  exact ⟨rfl,rfl⟩
 ·obtain rfl:s=⟨#[60,61]⟩:=a3_ (h.trans (by decide))
  clear h
  go_enter func253,ntmps253
  go_wp2
  go_ret
  exact ⟨rfl,rfl⟩
 ·obtain rfl:s=⟨#[60,60]⟩:=a3_ (h.trans (by decide))
  clear h
  go_enter func253,ntmps253
  go_wp2
  go_ret
  exact ⟨rfl,rfl⟩
 ·obtain rfl:s=⟨#[62,62]⟩:=a3_ (h.trans (by decide))
  clear h
  go_enter func253,ntmps253
  go_wp2
  go_ret
  exact ⟨rfl,rfl⟩
end Go.Proofs.YtpcniebkabkikaaGreatDoor
namespace Go.Proofs.YtpcniebkabkikaaGreatDoor
open Go
theorem pe_ (l:List UInt8) (acc:Nat):(l.map UInt8.toNat).foldl (fun n d=>10*n+(d - 48)) acc=l.foldl (fun n c=>10*n+(c.toNat - 48)) acc:=by
 rw [List.foldl_map]
theorem so_ (l:List UInt8) (n:Nat):n≤l.foldl (fun n c=>10*n+(c.toNat - 48)) n:=by
 rw [←pe_];exact pd_ _ _
theorem fq_:∀(l:List UInt8) (acc:Nat),(∀c∈l,48≤c.toNat∧c.toNat≤57)→acc≤18446744073709551615 →
 Lib.parseUintM 18446744073709551615 acc l=if l.foldl (fun n c=>10*n+(c.toNat - 48)) acc≤18446744073709551615 then .ok (l.foldl (fun n c=>10*n+(c.toNat - 48)) acc) else .range
 | [],acc,_,h=>by rw [Lib.parseUintM,List.foldl_nil,if_pos h]
 | c::r,acc,hd,h=>by
  have hc:=hd c (List.mem_cons_self ..)
  have hg:=so_ r (10*acc+(c.toNat - 48))
  rw [Lib.parseUintM,if_pos hc,List.foldl_cons]
  by_cases h1:1844674407370955162≤acc
  ·rw [if_pos h1,if_neg (by omega)]
  ·rw [if_neg h1]
   by_cases h2:18446744073709551615<acc*10+(c.toNat - 48)
   ·rw [if_pos h2,if_neg (by omega)]
   ·rw [if_neg h2,Nat.mul_comm acc 10,fq_ r _ (fun x hx=>hd x (List.mem_cons_of_mem _ hx)) (by omega)]
theorem g9_ (l:List UInt8) (h0:l≠[]) (hd:∀x∈l.map UInt8.toNat,digitB x=true) :
 Lib.parseIntB 64 l=if valD (l.map UInt8.toNat)≤most then .ok (valD (l.map UInt8.toNat):Nat) else .range:=by
 have hd':∀c∈l,48≤c.toNat∧c.toNat≤57:=fun c hc=>dr_ (hd _ (List.mem_map_of_mem hc))
 have hm:=fq_ l 0 hd' (by omega)
 rw [←pe_] at hm
 change _=if valD (l.map UInt8.toNat)≤_ then Lib.NumEnd.ok (valD (l.map UInt8.toNat)) else _ at hm
 cases l with
 | nil=>exact absurd rfl h0
 | cons c r =>
  have hc:=hd' c (List.mem_cons_self ..)
  rw [Lib.parseIntB]
  simp only [show ¬c.toNat=43 by omega,show ¬c.toNat=45 by omega,or_false,if_false,not_false_eq_true,true_and,false_and]
  rw [Lib.parseUintB,if_neg (by simp),show (2 ^ 64 - 1:Nat)=18446744073709551615 by decide,hm]
  generalize valD ((c::r).map UInt8.toNat)=V
  by_cases h1:V≤18446744073709551615
  ·rw [if_pos h1]
   by_cases h2:V≤most
   ·simp only [if_pos h2,show ¬2 ^ (64 - 1)≤V by simp only [most] at h2;omega,if_false]
   ·simp only [if_neg h2,show 2 ^ (64 - 1)≤V by simp only [most] at h2;omega,if_true]
  ·rw [if_neg h1,if_neg (by simp only [most];omega)]
end Go.Proofs.YtpcniebkabkikaaGreatDoor
namespace Go.Proofs
open Go.Shelf
def Tryz.lays170_ren:Go.Shelf.Ren:=⟨fun | 170=>103 | n=>n,fun | 70=>76 | 3=>3 | 0=>0 | 72=>79 | 37=>77 | 5=>5 | n=>n,fun | n=>n⟩
theorem Tryz.lays170:Go.Proofs.Lays.n170 prog Tryz.lays170_ren:={
 mixed:=by kernel_rfl
 f170:=func103.trans (congrArg some (by kernel_rfl))
 t0:=Tryz.underlying0
 a0:=Tryz.isAgg0
 z0:=Tryz.sizeOf0
 v0:=Tryz.zeroValue0
 t3:=Tryz.underlying3
 a3:=Tryz.isAgg3
 z3:=Tryz.sizeOf3
 v3:=Tryz.zeroValue3
 t37:=Tryz.underlying77
 a37:=Tryz.isAgg77
 z37:=Tryz.sizeOf77
 v37:=Tryz.zeroValue77
 t70:=Tryz.underlying76
 a70:=Tryz.isAgg76
 z70:=Tryz.sizeOf76
 v70:=Tryz.zeroValue76
 t72:=Tryz.underlying79
 a72:=Tryz.isAgg79
 z72:=Tryz.sizeOf79
 v72:=Tryz.zeroValue79 }
def Tryz.lays169_ren:Go.Shelf.Ren:=⟨fun | 169=>34 | n=>n,fun | 70=>76 | 9=>9 | 0=>0 | 72=>79 | 37=>77 | 127=>109 | 3=>3 | 5=>5 | n=>n,fun | n=>n⟩
theorem Tryz.lays169:Go.Proofs.Lays.n169 prog Tryz.lays169_ren:={
 mixed:=by kernel_rfl
 f169:=func34.trans (congrArg some (by kernel_rfl))
 t0:=Tryz.underlying0
 a0:=Tryz.isAgg0
 z0:=Tryz.sizeOf0
 v0:=Tryz.zeroValue0
 t3:=Tryz.underlying3
 a3:=Tryz.isAgg3
 z3:=Tryz.sizeOf3
 v3:=Tryz.zeroValue3
 t9:=Tryz.underlying9
 a9:=Tryz.isAgg9
 z9:=Tryz.sizeOf9
 v9:=Tryz.zeroValue9
 t37:=Tryz.underlying77
 a37:=Tryz.isAgg77
 z37:=Tryz.sizeOf77
 v37:=Tryz.zeroValue77
 t70:=Tryz.underlying76
 a70:=Tryz.isAgg76
 z70:=Tryz.sizeOf76
 v70:=Tryz.zeroValue76
 t72:=Tryz.underlying79
 a72:=Tryz.isAgg79
 z72:=Tryz.sizeOf79
 v72:=Tryz.zeroValue79
 t127:=Tryz.underlying109
 a127:=Tryz.isAgg109
 z127:=Tryz.sizeOf109
 v127:=Tryz.zeroValue109 }
theorem Tryz.Builder_Extra_169:Builder.Extra prog Tryz.lays169_ren:={
 sizeBuilder:=by kernel_rfl
 liesBuilder:=by kernel_rfl
 t5:=Tryz.underlying5
 a5:=Tryz.isAgg5
 z5:=Tryz.sizeOf5
 v5:=Tryz.zeroValue5
 infoByte:=by kernel_rfl
 cellsByte:=by kernel_rfl
 sizeByte:=by kernel_rfl
 neB5:=by decide }
open Go.RowKit in
theorem Tryz.Builder_Len_f (B b:Nat) (bs:List Value) (w:World) (h:Lib.IsBuilderF 79 5 B b bs w) :
 Calls prog 103 #[.pointer (some ⟨b,0,none⟩)] w fun e w'=>e=.returned (.int .i64 bs.length)∧w'=w:=Any.Builder_Len_f Tryz.lays170 B b bs w h
open Go.RowKit in
theorem Tryz.Builder_String_any_k (B b:Nat) (l:List UInt8) (w:World) (h:Lib.IsBuilderF 79 5 B b (Lib.byteCells l) w) (hBw:B≤w.heap.size) :
 Calls prog 34 #[.pointer (some ⟨b,0,none⟩)] w fun e w'=>e=.returned (.string ⟨l.toArray⟩)∧(Lib.IsBuilderF 79 5 B b (Lib.byteCells l) w'∧Below B w w'∧Lib.OthersKept 5 (some b) w w'):=Any.Builder_String_any_k Tryz.lays169 Tryz.Builder_Extra_169 B b l w h hBw
def Tryz.laysM171_ren:Go.Shelf.Ren:=⟨fun | 171=>112 | 243=>161 | 246=>198 | 283=>230 | 284=>231 | 285=>232 | 286=>233 | 129=>257 | 317=>256 | 318=>258 | 319=>259 | 320=>260 | 337=>270 | 338=>237 | n=>n,fun | 3=>3 | 9=>9 | 2=>2 | 4=>4 | 171=>253 | 0=>0 | 53=>49 | 37=>77 | 5=>5 | 173=>256 | 212=>273 | 51=>274 | 20=>20 | 213=>275 | 46=>208 | 232=>292 | 233=>277 | n=>n,fun | 17=>1 | 18=>3 | 19=>2 | n=>n⟩
theorem Tryz.laysM171:Go.Proofs.LaysM.n171 prog Tryz.laysM171_ren:={
 mixed:=by kernel_rfl
 f129:=func257.trans (congrArg some (by kernel_rfl))
 f171:=func112.trans (congrArg some (by kernel_rfl))
 f243:=func161.trans (congrArg some (by kernel_rfl))
 f246:=func198.trans (congrArg some (by kernel_rfl))
 f283:=func230.trans (congrArg some (by kernel_rfl))
 f284:=func231.trans (congrArg some (by kernel_rfl))
 f285:=func232.trans (congrArg some (by kernel_rfl))
 f286:=func233.trans (congrArg some (by kernel_rfl))
 f317:=func256.trans (congrArg some (by kernel_rfl))
 f318:=func258.trans (congrArg some (by kernel_rfl))
 f319:=func259.trans (congrArg some (by kernel_rfl))
 f320:=func260.trans (congrArg some (by kernel_rfl))
 f337:=func270.trans (congrArg some (by kernel_rfl))
 f338:=func237.trans (congrArg some (by kernel_rfl))
 t0:=Tryz.underlying0
 a0:=Tryz.isAgg0
 z0:=Tryz.sizeOf0
 v0:=Tryz.zeroValue0
 t2:=Tryz.underlying2
 a2:=Tryz.isAgg2
 z2:=Tryz.sizeOf2
 v2:=Tryz.zeroValue2
 t3:=Tryz.underlying3
 a3:=Tryz.isAgg3
 z3:=Tryz.sizeOf3
 v3:=Tryz.zeroValue3
 t4:=Tryz.underlying4
 a4:=Tryz.isAgg4
 z4:=Tryz.sizeOf4
 v4:=Tryz.zeroValue4
 t5:=Tryz.underlying5
 a5:=Tryz.isAgg5
 z5:=Tryz.sizeOf5
 v5:=Tryz.zeroValue5
 t9:=Tryz.underlying9
 a9:=Tryz.isAgg9
 z9:=Tryz.sizeOf9
 v9:=Tryz.zeroValue9
 t20:=Tryz.underlying20
 a20:=Tryz.isAgg20
 z20:=Tryz.sizeOf20
 v20:=Tryz.zeroValue20
 t37:=Tryz.underlying77
 a37:=Tryz.isAgg77
 z37:=Tryz.sizeOf77
 v37:=Tryz.zeroValue77
 t46:=Tryz.underlying208
 a46:=Tryz.isAgg208
 z46:=Tryz.sizeOf208
 v46:=Tryz.zeroValue208
 t51:=Tryz.underlying274
 a51:=Tryz.isAgg274
 z51:=Tryz.sizeOf274
 v51:=Tryz.zeroValue274
 t53:=Tryz.underlying49
 a53:=Tryz.isAgg49
 z53:=Tryz.sizeOf49
 v53:=Tryz.zeroValue49
 t171:=Tryz.underlying253
 a171:=Tryz.isAgg253
 z171:=Tryz.sizeOf253
 v171:=Tryz.zeroValue253
 t173:=Tryz.underlying256
 a173:=Tryz.isAgg256
 z173:=Tryz.sizeOf256
 v173:=Tryz.zeroValue256
 t212:=Tryz.underlying273
 a212:=Tryz.isAgg273
 z212:=Tryz.sizeOf273
 v212:=Tryz.zeroValue273
 t213:=Tryz.underlying275
 a213:=Tryz.isAgg275
 z213:=Tryz.sizeOf275
 t232:=Tryz.underlying292
 a232:=Tryz.isAgg292
 z232:=Tryz.sizeOf292
 v232:=Tryz.zeroValue292
 t233:=Tryz.underlying277
 a233:=Tryz.isAgg277
 z233:=Tryz.sizeOf277
 v233:=Tryz.zeroValue277
 g17:=by kernel_rfl
 g18:=by kernel_rfl
 g19:=by kernel_rfl
 i0:=by kernel_rfl
 i2:=by kernel_rfl
 i3:=by kernel_rfl
 i4:=by kernel_rfl
 i5:=by kernel_rfl
 i9:=by kernel_rfl
 i20:=by kernel_rfl
 i37:=by kernel_rfl
 i46:=by kernel_rfl
 i51:=by kernel_rfl
 i53:=by kernel_rfl
 i171:=by kernel_rfl
 i173:=by kernel_rfl
 i212:=by kernel_rfl
 i232:=by kernel_rfl
 i233:=by kernel_rfl
 m17:=by kernel_rfl
 m18:=by kernel_rfl
 m19:=by kernel_rfl }
open Go.RowKit Go.Sort Go.Lib in
theorem Tryz.strconv_Itoa (n : Int) (h0 : -9223372036854775808 ≤ n) (h1 : n ≤ 9223372036854775807) (w : World) (htab : Lib.TabIs prog w "internal/strconv.uint64pow10" .u64 Lib.pow10Tab) :
 Calls prog 112 #[.int .i64 n] w fun e w'=>e=.returned (.string ⟨(Lib.itoa n).toArray⟩)∧∃k os,w'=grow (w.drewN k) os:=Any.strconv_Itoa Tryz.laysM171 n h0 h1 w htab
def Tryz.lays171_ren:Go.Shelf.Ren:=⟨fun | 171=>112 | 243=>161 | 246=>198 | 283=>230 | 284=>231 | 285=>232 | 286=>233 | 129=>257 | 317=>256 | 318=>258 | 319=>259 | 320=>260 | 337=>270 | 338=>237 | n=>n,fun | 3=>3 | 9=>9 | 2=>2 | 4=>4 | 171=>253 | 0=>0 | 53=>49 | 37=>77 | 5=>5 | 173=>256 | 212=>273 | 51=>274 | 20=>20 | 213=>275 | 46=>208 | 232=>292 | 233=>277 | n=>n,fun | 17=>1 | 18=>3 | 19=>2 | n=>n⟩
theorem Tryz.lays171:Go.Proofs.Lays.n171 prog Tryz.lays171_ren:={
 mixed:=by kernel_rfl
 f129:=func257.trans (congrArg some (by kernel_rfl))
 f171:=func112.trans (congrArg some (by kernel_rfl))
 f243:=func161.trans (congrArg some (by kernel_rfl))
 f246:=func198.trans (congrArg some (by kernel_rfl))
 f283:=func230.trans (congrArg some (by kernel_rfl))
 f284:=func231.trans (congrArg some (by kernel_rfl))
 f285:=func232.trans (congrArg some (by kernel_rfl))
 f286:=func233.trans (congrArg some (by kernel_rfl))
 f317:=func256.trans (congrArg some (by kernel_rfl))
 f318:=func258.trans (congrArg some (by kernel_rfl))
 f319:=func259.trans (congrArg some (by kernel_rfl))
 f320:=func260.trans (congrArg some (by kernel_rfl))
 f337:=func270.trans (congrArg some (by kernel_rfl))
 f338:=func237.trans (congrArg some (by kernel_rfl))
 t0:=Tryz.underlying0
 a0:=Tryz.isAgg0
 z0:=Tryz.sizeOf0
 v0:=Tryz.zeroValue0
 t2:=Tryz.underlying2
 a2:=Tryz.isAgg2
 z2:=Tryz.sizeOf2
 v2:=Tryz.zeroValue2
 t3:=Tryz.underlying3
 a3:=Tryz.isAgg3
 z3:=Tryz.sizeOf3
 v3:=Tryz.zeroValue3
 t4:=Tryz.underlying4
 a4:=Tryz.isAgg4
 z4:=Tryz.sizeOf4
 v4:=Tryz.zeroValue4
 t5:=Tryz.underlying5
 a5:=Tryz.isAgg5
 z5:=Tryz.sizeOf5
 v5:=Tryz.zeroValue5
 t9:=Tryz.underlying9
 a9:=Tryz.isAgg9
 z9:=Tryz.sizeOf9
 v9:=Tryz.zeroValue9
 t20:=Tryz.underlying20
 a20:=Tryz.isAgg20
 z20:=Tryz.sizeOf20
 v20:=Tryz.zeroValue20
 t37:=Tryz.underlying77
 a37:=Tryz.isAgg77
 z37:=Tryz.sizeOf77
 v37:=Tryz.zeroValue77
 t46:=Tryz.underlying208
 a46:=Tryz.isAgg208
 z46:=Tryz.sizeOf208
 v46:=Tryz.zeroValue208
 t51:=Tryz.underlying274
 a51:=Tryz.isAgg274
 z51:=Tryz.sizeOf274
 v51:=Tryz.zeroValue274
 t53:=Tryz.underlying49
 a53:=Tryz.isAgg49
 z53:=Tryz.sizeOf49
 v53:=Tryz.zeroValue49
 t171:=Tryz.underlying253
 a171:=Tryz.isAgg253
 z171:=Tryz.sizeOf253
 v171:=Tryz.zeroValue253
 t173:=Tryz.underlying256
 a173:=Tryz.isAgg256
 z173:=Tryz.sizeOf256
 v173:=Tryz.zeroValue256
 t212:=Tryz.underlying273
 a212:=Tryz.isAgg273
 z212:=Tryz.sizeOf273
 v212:=Tryz.zeroValue273
 t213:=Tryz.underlying275
 a213:=Tryz.isAgg275
 z213:=Tryz.sizeOf275
 t232:=Tryz.underlying292
 a232:=Tryz.isAgg292
 z232:=Tryz.sizeOf292
 v232:=Tryz.zeroValue292
 t233:=Tryz.underlying277
 a233:=Tryz.isAgg277
 z233:=Tryz.sizeOf277
 v233:=Tryz.zeroValue277
 g17:=by kernel_rfl
 g18:=by kernel_rfl
 g19:=by kernel_rfl }
open Go.RowKit Go.Sort Go.Lib in
theorem Tryz.strconv_Itoa_small (i:Nat) (hi:i<100) (w:World) :
 Calls prog 112 #[.int .i64 i] w fun e w'=>e=.returned (.string ⟨(Lib.decDigits i).toArray⟩)∧w'=w:=Any.strconv_Itoa_small Tryz.lays171 i hi w
def Tryz.laysM173_ren:Go.Shelf.Ren:=⟨fun | 173=>176 | 246=>198 | 283=>230 | 284=>231 | 285=>232 | 286=>233 | 129=>257 | 317=>256 | 318=>258 | 319=>259 | 320=>260 | 337=>270 | 338=>237 | n=>n,fun | 2=>2 | 3=>3 | 9=>9 | 4=>4 | 171=>253 | 0=>0 | 53=>49 | 37=>77 | 5=>5 | 173=>256 | 212=>273 | 51=>274 | 20=>20 | 213=>275 | 46=>208 | 232=>292 | 233=>277 | n=>n,fun | 17=>1 | 18=>3 | 19=>2 | n=>n⟩
theorem Tryz.laysM173:Go.Proofs.LaysM.n173 prog Tryz.laysM173_ren:={
 mixed:=by kernel_rfl
 f129:=func257.trans (congrArg some (by kernel_rfl))
 f173:=func176.trans (congrArg some (by kernel_rfl))
 f246:=func198.trans (congrArg some (by kernel_rfl))
 f283:=func230.trans (congrArg some (by kernel_rfl))
 f284:=func231.trans (congrArg some (by kernel_rfl))
 f285:=func232.trans (congrArg some (by kernel_rfl))
 f286:=func233.trans (congrArg some (by kernel_rfl))
 f317:=func256.trans (congrArg some (by kernel_rfl))
 f318:=func258.trans (congrArg some (by kernel_rfl))
 f319:=func259.trans (congrArg some (by kernel_rfl))
 f320:=func260.trans (congrArg some (by kernel_rfl))
 f337:=func270.trans (congrArg some (by kernel_rfl))
 f338:=func237.trans (congrArg some (by kernel_rfl))
 t0:=Tryz.underlying0
 a0:=Tryz.isAgg0
 z0:=Tryz.sizeOf0
 v0:=Tryz.zeroValue0
 t2:=Tryz.underlying2
 a2:=Tryz.isAgg2
 z2:=Tryz.sizeOf2
 v2:=Tryz.zeroValue2
 t3:=Tryz.underlying3
 a3:=Tryz.isAgg3
 z3:=Tryz.sizeOf3
 v3:=Tryz.zeroValue3
 t4:=Tryz.underlying4
 a4:=Tryz.isAgg4
 z4:=Tryz.sizeOf4
 v4:=Tryz.zeroValue4
 t5:=Tryz.underlying5
 a5:=Tryz.isAgg5
 z5:=Tryz.sizeOf5
 v5:=Tryz.zeroValue5
 t9:=Tryz.underlying9
 a9:=Tryz.isAgg9
 z9:=Tryz.sizeOf9
 v9:=Tryz.zeroValue9
 t20:=Tryz.underlying20
 a20:=Tryz.isAgg20
 z20:=Tryz.sizeOf20
 v20:=Tryz.zeroValue20
 t37:=Tryz.underlying77
 a37:=Tryz.isAgg77
 z37:=Tryz.sizeOf77
 v37:=Tryz.zeroValue77
 t46:=Tryz.underlying208
 a46:=Tryz.isAgg208
 z46:=Tryz.sizeOf208
 v46:=Tryz.zeroValue208
 t51:=Tryz.underlying274
 a51:=Tryz.isAgg274
 z51:=Tryz.sizeOf274
 v51:=Tryz.zeroValue274
 t53:=Tryz.underlying49
 a53:=Tryz.isAgg49
 z53:=Tryz.sizeOf49
 v53:=Tryz.zeroValue49
 t171:=Tryz.underlying253
 a171:=Tryz.isAgg253
 z171:=Tryz.sizeOf253
 v171:=Tryz.zeroValue253
 t173:=Tryz.underlying256
 a173:=Tryz.isAgg256
 z173:=Tryz.sizeOf256
 v173:=Tryz.zeroValue256
 t212:=Tryz.underlying273
 a212:=Tryz.isAgg273
 z212:=Tryz.sizeOf273
 v212:=Tryz.zeroValue273
 t213:=Tryz.underlying275
 a213:=Tryz.isAgg275
 z213:=Tryz.sizeOf275
 t232:=Tryz.underlying292
 a232:=Tryz.isAgg292
 z232:=Tryz.sizeOf292
 v232:=Tryz.zeroValue292
 t233:=Tryz.underlying277
 a233:=Tryz.isAgg277
 z233:=Tryz.sizeOf277
 v233:=Tryz.zeroValue277
 g17:=by kernel_rfl
 g18:=by kernel_rfl
 g19:=by kernel_rfl
 i0:=by kernel_rfl
 i2:=by kernel_rfl
 i3:=by kernel_rfl
 i4:=by kernel_rfl
 i5:=by kernel_rfl
 i9:=by kernel_rfl
 i20:=by kernel_rfl
 i37:=by kernel_rfl
 i46:=by kernel_rfl
 i51:=by kernel_rfl
 i53:=by kernel_rfl
 i171:=by kernel_rfl
 i173:=by kernel_rfl
 i212:=by kernel_rfl
 i232:=by kernel_rfl
 i233:=by kernel_rfl
 m17:=by kernel_rfl
 m18:=by kernel_rfl
 m19:=by kernel_rfl }
open Go.RowKit Go.Sort Go.Lib in
theorem Tryz.strconv_FormatInt_10 (n : Int) (h0 : -9223372036854775808 ≤ n) (h1 : n ≤ 9223372036854775807) (w : World) (htab : Lib.TabIs prog w "internal/strconv.uint64pow10" .u64 Lib.pow10Tab) :
 Calls prog 176 #[.int .i64 n,.int .i64 10] w fun e w'=>e=.returned (.string ⟨(Lib.itoa n).toArray⟩)∧∃k os,w'=grow (w.drewN k) os:=Any.strconv_FormatInt_10 Tryz.laysM173 n h0 h1 w htab
def Tryz.laysM316_ren:Go.Shelf.Ren:=⟨fun | 316=>222 | n=>n,fun | 9=>9 | 3=>3 | 4=>4 | 37=>77 | 0=>0 | 127=>109 | 5=>5 | n=>n,fun | n=>n⟩
theorem Tryz.laysM316:Go.Proofs.LaysM.n316 prog Tryz.laysM316_ren:={
 mixed:=by kernel_rfl
 f316:=func222.trans (congrArg some (by kernel_rfl))
 t0:=Tryz.underlying0
 a0:=Tryz.isAgg0
 z0:=Tryz.sizeOf0
 v0:=Tryz.zeroValue0
 t3:=Tryz.underlying3
 a3:=Tryz.isAgg3
 z3:=Tryz.sizeOf3
 v3:=Tryz.zeroValue3
 t4:=Tryz.underlying4
 a4:=Tryz.isAgg4
 z4:=Tryz.sizeOf4
 v4:=Tryz.zeroValue4
 t9:=Tryz.underlying9
 a9:=Tryz.isAgg9
 z9:=Tryz.sizeOf9
 v9:=Tryz.zeroValue9
 t37:=Tryz.underlying77
 a37:=Tryz.isAgg77
 z37:=Tryz.sizeOf77
 v37:=Tryz.zeroValue77
 t127:=Tryz.underlying109
 a127:=Tryz.isAgg109
 z127:=Tryz.sizeOf109
 v127:=Tryz.zeroValue109
 t5:=Tryz.underlying5
 a5:=Tryz.isAgg5
 z5:=Tryz.sizeOf5
 v5:=Tryz.zeroValue5
 i0:=by kernel_rfl
 i3:=by kernel_rfl
 i4:=by kernel_rfl
 i5:=by kernel_rfl
 i9:=by kernel_rfl
 i37:=by kernel_rfl
 i127:=by kernel_rfl }
open Go.RowKit in
theorem Tryz.stringslite_Clone (s:ByteArray) (w:World) (hlim:s.size≤281474976710656) :
 Calls prog 222 #[.string s] w fun e w'=>e=.returned (.string s)∧Below w.heap.size w w':=Any.stringslite_Clone Tryz.laysM316 s w hlim
def Tryz.laysC174_ren:Go.Shelf.Ren:=⟨fun | 174=>252 | 247=>268 | 245=>269 | 287=>272 | 279=>273 | 280=>274 | 281=>275 | 282=>276 | 321=>277 | 322=>278 | 316=>222 | 171=>112 | 205=>279 | 243=>161 | 246=>198 | 283=>230 | 284=>231 | 285=>232 | 286=>233 | 129=>257 | 317=>256 | 318=>258 | 319=>259 | 320=>260 | 337=>270 | 338=>237 | n=>n,fun | 9=>9 | 3=>3 | 2=>2 | 75=>136 | 85=>270 | 4=>4 | 167=>286 | 5=>5 | 53=>49 | 175=>287 | 46=>208 | 168=>289 | 37=>77 | 0=>0 | 210=>295 | 21=>21 | 127=>109 | 145=>299 | 143=>297 | 171=>253 | 173=>256 | 212=>273 | 51=>274 | 20=>20 | 213=>275 | 232=>292 | 233=>277 | 80=>83 | n=>n,fun | 15=>5 | 16=>6 | 17=>1 | 18=>3 | 19=>2 | n=>n⟩
theorem Tryz.laysC174:Go.Proofs.LaysC.n174 prog Tryz.laysC174_ren:={
 mixed:=by kernel_rfl
 f129:=func257.trans (congrArg some (by kernel_rfl))
 f171:=func112.trans (congrArg some (by kernel_rfl))
 f174:=func252.trans (congrArg some (by kernel_rfl))
 f205:=func279.trans (congrArg some (by kernel_rfl))
 f243:=func161.trans (congrArg some (by kernel_rfl))
 f245:=func269.trans (congrArg some (by kernel_rfl))
 f246:=func198.trans (congrArg some (by kernel_rfl))
 f247:=func268.trans (congrArg some (by kernel_rfl))
 f279:=func273.trans (congrArg some (by kernel_rfl))
 f280:=func274.trans (congrArg some (by kernel_rfl))
 f281:=func275.trans (congrArg some (by kernel_rfl))
 f282:=func276.trans (congrArg some (by kernel_rfl))
 f283:=func230.trans (congrArg some (by kernel_rfl))
 f284:=func231.trans (congrArg some (by kernel_rfl))
 f285:=func232.trans (congrArg some (by kernel_rfl))
 f286:=func233.trans (congrArg some (by kernel_rfl))
 f287:=func272.trans (congrArg some (by kernel_rfl))
 f316:=func222.trans (congrArg some (by kernel_rfl))
 f317:=func256.trans (congrArg some (by kernel_rfl))
 f318:=func258.trans (congrArg some (by kernel_rfl))
 f319:=func259.trans (congrArg some (by kernel_rfl))
 f320:=func260.trans (congrArg some (by kernel_rfl))
 f321:=func277.trans (congrArg some (by kernel_rfl))
 f322:=func278.trans (congrArg some (by kernel_rfl))
 f337:=func270.trans (congrArg some (by kernel_rfl))
 f338:=func237.trans (congrArg some (by kernel_rfl))
 t0:=Tryz.underlying0
 a0:=Tryz.isAgg0
 z0:=Tryz.sizeOf0
 v0:=Tryz.zeroValue0
 t2:=Tryz.underlying2
 a2:=Tryz.isAgg2
 z2:=Tryz.sizeOf2
 v2:=Tryz.zeroValue2
 t3:=Tryz.underlying3
 a3:=Tryz.isAgg3
 z3:=Tryz.sizeOf3
 v3:=Tryz.zeroValue3
 t4:=Tryz.underlying4
 a4:=Tryz.isAgg4
 z4:=Tryz.sizeOf4
 v4:=Tryz.zeroValue4
 t5:=Tryz.underlying5
 a5:=Tryz.isAgg5
 z5:=Tryz.sizeOf5
 v5:=Tryz.zeroValue5
 t9:=Tryz.underlying9
 a9:=Tryz.isAgg9
 z9:=Tryz.sizeOf9
 v9:=Tryz.zeroValue9
 t20:=Tryz.underlying20
 a20:=Tryz.isAgg20
 z20:=Tryz.sizeOf20
 v20:=Tryz.zeroValue20
 t21:=Tryz.underlying21
 a21:=Tryz.isAgg21
 z21:=Tryz.sizeOf21
 v21:=Tryz.zeroValue21
 t37:=Tryz.underlying77
 a37:=Tryz.isAgg77
 z37:=Tryz.sizeOf77
 v37:=Tryz.zeroValue77
 t46:=Tryz.underlying208
 a46:=Tryz.isAgg208
 z46:=Tryz.sizeOf208
 v46:=Tryz.zeroValue208
 t51:=Tryz.underlying274
 a51:=Tryz.isAgg274
 z51:=Tryz.sizeOf274
 v51:=Tryz.zeroValue274
 t53:=Tryz.underlying49
 a53:=Tryz.isAgg49
 z53:=Tryz.sizeOf49
 v53:=Tryz.zeroValue49
 t75:=Tryz.underlying136
 a75:=Tryz.isAgg136
 z75:=Tryz.sizeOf136
 v75:=Tryz.zeroValue136
 t85:=Tryz.underlying270
 a85:=Tryz.isAgg270
 z85:=Tryz.sizeOf270
 v85:=Tryz.zeroValue270
 t127:=Tryz.underlying109
 a127:=Tryz.isAgg109
 z127:=Tryz.sizeOf109
 v127:=Tryz.zeroValue109
 t143:=Tryz.underlying297
 a143:=Tryz.isAgg297
 z143:=Tryz.sizeOf297
 v143:=Tryz.zeroValue297
 t145:=Tryz.underlying299
 a145:=Tryz.isAgg299
 z145:=Tryz.sizeOf299
 v145:=Tryz.zeroValue299
 t167:=Tryz.underlying286
 a167:=Tryz.isAgg286
 z167:=Tryz.sizeOf286
 v167:=Tryz.zeroValue286
 t168:=Tryz.underlying289
 a168:=Tryz.isAgg289
 z168:=Tryz.sizeOf289
 v168:=Tryz.zeroValue289
 t171:=Tryz.underlying253
 a171:=Tryz.isAgg253
 z171:=Tryz.sizeOf253
 v171:=Tryz.zeroValue253
 t173:=Tryz.underlying256
 a173:=Tryz.isAgg256
 z173:=Tryz.sizeOf256
 v173:=Tryz.zeroValue256
 t175:=Tryz.underlying287
 a175:=Tryz.isAgg287
 z175:=Tryz.sizeOf287
 v175:=Tryz.zeroValue287
 t210:=Tryz.underlying295
 a210:=Tryz.isAgg295
 z210:=Tryz.sizeOf295
 v210:=Tryz.zeroValue295
 t212:=Tryz.underlying273
 a212:=Tryz.isAgg273
 z212:=Tryz.sizeOf273
 v212:=Tryz.zeroValue273
 t213:=Tryz.underlying275
 a213:=Tryz.isAgg275
 z213:=Tryz.sizeOf275
 t232:=Tryz.underlying292
 a232:=Tryz.isAgg292
 z232:=Tryz.sizeOf292
 v232:=Tryz.zeroValue292
 t233:=Tryz.underlying277
 a233:=Tryz.isAgg277
 z233:=Tryz.sizeOf277
 v233:=Tryz.zeroValue277
 g15:=by kernel_rfl
 g16:=by kernel_rfl
 g17:=by kernel_rfl
 g18:=by kernel_rfl
 g19:=by kernel_rfl
 t80:=Tryz.underlying83
 a80:=Tryz.isAgg83
 z80:=Tryz.sizeOf83
 v80:=Tryz.zeroValue83
 i0:=by kernel_rfl
 i2:=by kernel_rfl
 i3:=by kernel_rfl
 i4:=by kernel_rfl
 i5:=by kernel_rfl
 i9:=by kernel_rfl
 i20:=by kernel_rfl
 i21:=by kernel_rfl
 i37:=by kernel_rfl
 i46:=by kernel_rfl
 i51:=by kernel_rfl
 i53:=by kernel_rfl
 i75:=by kernel_rfl
 i80:=by kernel_rfl
 i85:=by kernel_rfl
 i127:=by kernel_rfl
 i143:=by kernel_rfl
 i145:=by kernel_rfl
 i167:=by kernel_rfl
 i168:=by kernel_rfl
 i171:=by kernel_rfl
 i173:=by kernel_rfl
 i175:=by kernel_rfl
 i210:=by kernel_rfl
 i212:=by kernel_rfl
 i232:=by kernel_rfl
 i233:=by kernel_rfl
 m15:=by kernel_rfl
 m16:=by kernel_rfl
 m17:=by kernel_rfl
 m18:=by kernel_rfl
 m19:=by kernel_rfl
 c0:=by kernel_rfl
 c2:=by kernel_rfl
 c3:=by kernel_rfl
 c4:=by kernel_rfl
 c5:=by kernel_rfl
 c9:=by kernel_rfl
 c20:=by kernel_rfl
 c21:=by kernel_rfl
 c37:=by kernel_rfl
 c46:=by kernel_rfl
 c51:=by kernel_rfl
 c53:=by kernel_rfl
 c75:=by kernel_rfl
 c80:=by kernel_rfl
 c85:=by kernel_rfl
 c127:=by kernel_rfl
 c143:=by kernel_rfl
 c145:=by kernel_rfl
 c167:=by kernel_rfl
 c168:=by kernel_rfl
 c171:=by kernel_rfl
 c173:=by kernel_rfl
 c175:=by kernel_rfl
 c210:=by kernel_rfl
 c212:=by kernel_rfl
 c213:=by kernel_rfl
 c232:=by kernel_rfl
 c233:=by kernel_rfl }
open Go.RowKit in
theorem Tryz.strconv_ParseInt_10_at64_ok (s:ByteArray) (hmax:s.size≤9223372036854775806) (v:Int) (h:Lib.parseIntB 64 s.data.toList=.ok v) (w:World) :
 Calls prog 252 #[.string s,.int .i64 10,.int .i64 64] w fun e w'=>e=.returned (.tuple #[.int .i64 v,.nilIface])∧(w'=w∨∃t,w'=Lib.bytesWorld w 5 t):=Any.strconv_ParseInt_10_at64_ok Tryz.laysC174 s hmax v h w
open Go.RowKit in
theorem Tryz.strconv_ParseInt_10_at64_range (s:ByteArray) (hlim:s.size≤281474976710656) (h:Lib.parseIntB 64 s.data.toList=.range) (ev:Value) (w:World) (hv:w.cell? ⟨6,0,none⟩=some ev) (hev:ev=.nilIface∨∃te pe,ev=.iface te pe) :
 Calls prog 252 #[.string s,.int .i64 10,.int .i64 64] w fun e w'=>∃N,e=.returned (.tuple #[.int .i64 (Lib.intSat 64 s.data.toList),.iface 289 (.pointer (some ⟨N,0,none⟩))])∧w.heap.size≤N∧w'.heap[N]?=some (.cells #[.string ⟨#[80,97,114,115,101,73,110,116]⟩,.string s,ev] 295 (0,0))∧Below w.heap.size w w':=Any.strconv_ParseInt_10_at64_range Tryz.laysC174 s hlim h ev w hv hev
def Tryz.lays105_ren:Go.Shelf.Ren:=⟨fun | 105=>205 | 212=>239 | 99=>240 | 165=>241 | 166=>83 | 170=>103 | 169=>34 | 263=>263 | 264=>264 | 206=>265 | 240=>141 | 241=>266 | 276=>179 | 277=>271 | n=>n,fun | 9=>9 | 3=>3 | 4=>4 | 20=>20 | 0=>0 | 46=>208 | 109=>259 | 5=>5 | 72=>79 | 76=>137 | 51=>274 | 146=>278 | 53=>49 | 148=>280 | 70=>76 | 37=>77 | 75=>136 | 127=>109 | 164=>219 | 80=>83 | n=>n,fun | n=>n⟩
theorem Tryz.lays105:Go.Proofs.Lays.n105 prog Tryz.lays105_ren:={
 mixed:=by kernel_rfl
 f99:=func240.trans (congrArg some (by kernel_rfl))
 f105:=func205.trans (congrArg some (by kernel_rfl))
 f165:=func241.trans (congrArg some (by kernel_rfl))
 f166:=func83.trans (congrArg some (by kernel_rfl))
 f169:=func34.trans (congrArg some (by kernel_rfl))
 f170:=func103.trans (congrArg some (by kernel_rfl))
 f206:=func265.trans (congrArg some (by kernel_rfl))
 f212:=func239.trans (congrArg some (by kernel_rfl))
 f240:=func141.trans (congrArg some (by kernel_rfl))
 f241:=func266.trans (congrArg some (by kernel_rfl))
 f263:=func263.trans (congrArg some (by kernel_rfl))
 f264:=func264.trans (congrArg some (by kernel_rfl))
 f276:=func179.trans (congrArg some (by kernel_rfl))
 f277:=func271.trans (congrArg some (by kernel_rfl))
 t0:=Tryz.underlying0
 a0:=Tryz.isAgg0
 z0:=Tryz.sizeOf0
 v0:=Tryz.zeroValue0
 t3:=Tryz.underlying3
 a3:=Tryz.isAgg3
 z3:=Tryz.sizeOf3
 v3:=Tryz.zeroValue3
 t4:=Tryz.underlying4
 a4:=Tryz.isAgg4
 z4:=Tryz.sizeOf4
 v4:=Tryz.zeroValue4
 t5:=Tryz.underlying5
 a5:=Tryz.isAgg5
 z5:=Tryz.sizeOf5
 v5:=Tryz.zeroValue5
 t9:=Tryz.underlying9
 a9:=Tryz.isAgg9
 z9:=Tryz.sizeOf9
 v9:=Tryz.zeroValue9
 t20:=Tryz.underlying20
 a20:=Tryz.isAgg20
 z20:=Tryz.sizeOf20
 v20:=Tryz.zeroValue20
 t37:=Tryz.underlying77
 a37:=Tryz.isAgg77
 z37:=Tryz.sizeOf77
 v37:=Tryz.zeroValue77
 t46:=Tryz.underlying208
 a46:=Tryz.isAgg208
 z46:=Tryz.sizeOf208
 v46:=Tryz.zeroValue208
 t51:=Tryz.underlying274
 a51:=Tryz.isAgg274
 z51:=Tryz.sizeOf274
 v51:=Tryz.zeroValue274
 t53:=Tryz.underlying49
 a53:=Tryz.isAgg49
 z53:=Tryz.sizeOf49
 v53:=Tryz.zeroValue49
 t70:=Tryz.underlying76
 a70:=Tryz.isAgg76
 z70:=Tryz.sizeOf76
 v70:=Tryz.zeroValue76
 t72:=Tryz.underlying79
 a72:=Tryz.isAgg79
 z72:=Tryz.sizeOf79
 v72:=Tryz.zeroValue79
 t75:=Tryz.underlying136
 a75:=Tryz.isAgg136
 z75:=Tryz.sizeOf136
 v75:=Tryz.zeroValue136
 t76:=Tryz.underlying137
 a76:=Tryz.isAgg137
 z76:=Tryz.sizeOf137
 v76:=Tryz.zeroValue137
 t109:=Tryz.underlying259
 a109:=Tryz.isAgg259
 z109:=Tryz.sizeOf259
 v109:=Tryz.zeroValue259
 t127:=Tryz.underlying109
 a127:=Tryz.isAgg109
 z127:=Tryz.sizeOf109
 v127:=Tryz.zeroValue109
 t146:=Tryz.underlying278
 a146:=Tryz.isAgg278
 z146:=Tryz.sizeOf278
 v146:=Tryz.zeroValue278
 t148:=Tryz.underlying280
 a148:=Tryz.isAgg280
 z148:=Tryz.sizeOf280
 v148:=Tryz.zeroValue280
 t164:=Tryz.underlying219
 a164:=Tryz.isAgg219
 z164:=Tryz.sizeOf219
 v164:=Tryz.zeroValue219 }
theorem Tryz.Builder_Extra_105:Builder.Extra prog Tryz.lays105_ren:={
 sizeBuilder:=by kernel_rfl
 liesBuilder:=by kernel_rfl
 t5:=Tryz.underlying5
 a5:=Tryz.isAgg5
 z5:=Tryz.sizeOf5
 v5:=Tryz.zeroValue5
 infoByte:=by kernel_rfl
 cellsByte:=by kernel_rfl
 sizeByte:=by kernel_rfl
 neB5:=by decide }
open Go.RowKit Go.Lib in
theorem Tryz.strings_Repeat (s:ByteArray) (c:Nat) (w:World) (hc:c≤9223372036854775807) (hlen:s.size*c≤140737488355328) :
 Calls prog 205 #[.string s,.int .i64 c] w fun e w'=>e=.returned (.string ⟨(Lib.repeatL s.data.toList c).toArray⟩)∧Below w.heap.size w w':=Any.strings_Repeat Tryz.lays105 Tryz.Builder_Extra_105 s c w hc hlen
def Tryz.lays110_ren:Go.Shelf.Ren:=⟨fun | 110=>235 | 109=>224 | n=>n,fun | 31=>22 | 9=>9 | 4=>4 | 3=>3 | 0=>0 | n=>n,fun | n=>n⟩
theorem Tryz.lays110:Go.Proofs.Lays.n110 prog Tryz.lays110_ren:={
 mixed:=by kernel_rfl
 f109:=func224.trans (congrArg some (by kernel_rfl))
 f110:=func235.trans (congrArg some (by kernel_rfl))
 t0:=Tryz.underlying0
 a0:=Tryz.isAgg0
 z0:=Tryz.sizeOf0
 v0:=Tryz.zeroValue0
 t3:=Tryz.underlying3
 a3:=Tryz.isAgg3
 z3:=Tryz.sizeOf3
 v3:=Tryz.zeroValue3
 t4:=Tryz.underlying4
 a4:=Tryz.isAgg4
 z4:=Tryz.sizeOf4
 v4:=Tryz.zeroValue4
 t9:=Tryz.underlying9
 a9:=Tryz.isAgg9
 z9:=Tryz.sizeOf9
 v9:=Tryz.zeroValue9
 t31:=Tryz.underlying22
 a31:=Tryz.isAgg22
 z31:=Tryz.sizeOf22
 v31:=Tryz.zeroValue22 }
open Go.Lib in
theorem Tryz.slices_Contains_string (b off n c:Nat) (zs:List ByteArray) (x:ByteArray) (w:World) (hz:n≤zs.length) (hbig:n≤9223372036854775807) (hc:∀j,j<zs.length→w.cell? ⟨b,off+j,none⟩=some (.string (zs.getD j ByteArray.empty))) :
 Calls prog 235 #[.slice (some ⟨b,off,none⟩) n c,.string x] w fun e w'=>e=.returned (.bool (Lib.containsS (zs.take n) x))∧w'=w:=Any.slices_Contains_string Tryz.lays110 b off n c zs x w hz hbig hc
end Go.Proofs
namespace Go.Proofs.YtpcniebkabkikaaGreatDoor
open Go Go.RowKit
def Env (w:World):Prop:=∃te pe,w.cell? ⟨6,0,none⟩=some (.iface te pe)
theorem Env.lt {w:World} (h:Env w):6<w.heap.size:=by
 obtain ⟨te,pe,h⟩:=h
 exact World.block_lt_of_cell? _ _ h
theorem Env.below {B:Nat} {w w':World} (h:Env w) (hb:Below B w w') (hB:6<B):Env w':=by
 obtain ⟨te,pe,h⟩:=h
 exact ⟨te,pe,(hb.cell (p:=⟨6,0,none⟩) hB).trans h⟩
abbrev tokV (k:Int) (t:ByteArray) (v a:Int):Value:=.agg #[.int .i64 k,.string t,.int .i64 v,.int .i64 a]
theorem xg_ (s:ByteArray) (h:bl s∈keysL) (w:World):Calls prog 216 #[.string s] w fun e w'=>e=.returned (.tuple #[tokV 2 s 0 0,.int .i64 0])∧Below w.heap.size w w':=by
 go_enter func216,ntmps216
 go_wp2_with (go_at_call 251;refine (kn_ s h _).mono ?_;rintro e w' ⟨rfl,rfl⟩)
 exact bodyPost_ret (v:=.tuple #[tokV 2 s 0 0,.int .i64 0]) (by simp [results,Tryz.results216,go_sem]) rfl ⟨rfl,by first|exact ((Below.refl _ _).alloc (Nat.le_refl _) _)⟩
theorem sp_ (s:ByteArray) (h:bl s ∉ keysL) (hl:32<s.size) (w:World):Calls prog 216 #[.string s] w fun e w'=>e=.returned (.tuple #[tokV 0 ⟨#[]⟩ 0 0,.int .i64 3])∧Below w.heap.size w w':=by
 go_enter func216,ntmps216
 go_wp2_with (go_at_call 251;refine (g8_ s h _).mono ?_;rintro e w' ⟨rfl,rfl⟩)
 exact bodyPost_ret (v:=.tuple #[tokV 0 ⟨#[]⟩ 0 0,.int .i64 3]) (by simp [results,Tryz.results216,go_sem]) rfl ⟨rfl,(Below.refl _ _).alloc (Nat.le_refl _) _⟩
theorem name_ok (s:ByteArray) (h:bl s ∉ keysL) (hl:s.size≤32) (w:World):Calls prog 216 #[.string s] w fun e w'=>e=.returned (.tuple #[tokV 1 s 0 0,.int .i64 0])∧Below w.heap.size w w':=by
 go_enter func216,ntmps216
 go_wp2_with (go_at_call 251;refine (g8_ s h _).mono ?_;rintro e w' ⟨rfl,rfl⟩)
 exact bodyPost_ret (v:=.tuple #[tokV 1 s 0 0,.int .i64 0]) (by simp [results,Tryz.results216,go_sem]) rfl ⟨rfl,(Below.refl _ _).alloc (Nat.le_refl _) _⟩
theorem xh_ (s:ByteArray) (h0:0<s.size) (hd:∀x∈bl s,digitB x=true) (hs:s.size≤281474976710656) (hv:valD (bl s)≤most) (w:World) :
 Calls prog 252 #[.string s,.int .i64 10,.int .i64 64] w fun e w'=>e=.returned (.tuple #[.int .i64 ((valD (bl s):Nat):Int),.nilIface])∧Below w.heap.size w w':=by
 have hne:s.data.toList≠[]:=by
  intro e
  rw [←ae_,bl,e] at h0
  exact absurd h0 (by simp)
 have hp:=g9_ s.data.toList hne hd
 change _=if valD (bl s)≤most then Lib.NumEnd.ok ((valD (bl s):Nat):Int) else _ at hp
 rw [if_pos hv] at hp
 refine (Tryz.strconv_ParseInt_10_at64_ok s (by omega) _ hp w).mono ?_
 rintro e w' ⟨rfl,rfl|⟨t,rfl⟩⟩
 ·exact ⟨rfl,Below.refl _ _⟩
 ·exact ⟨rfl,Lib.bytesWorld_below _ _ _⟩
theorem sq_ (s:ByteArray) (h0:0<s.size) (hd:∀x∈bl s,digitB x=true) (hs:s.size≤281474976710656) (hv:most<valD (bl s)) (w:World) (hE:Env w) :
 Calls prog 252 #[.string s,.int .i64 10,.int .i64 64] w fun e w'=>∃z N,e=.returned (.tuple #[.int .i64 z,.iface 289 (.pointer (some ⟨N,0,none⟩))])∧Below w.heap.size w w':=by
 have hne:s.data.toList≠[]:=by
  intro e
  rw [←ae_,bl,e] at h0
  exact absurd h0 (by simp)
 have hp:=g9_ s.data.toList hne hd
 change _=if valD (bl s)≤most then Lib.NumEnd.ok ((valD (bl s):Nat):Int) else _ at hp
 rw [if_neg (by omega)] at hp
 obtain ⟨te,pe,hE⟩:=hE
 refine (Tryz.strconv_ParseInt_10_at64_range s hs hp _ w hE (.inr ⟨te,pe,rfl⟩)).mono ?_
 rintro e w' ⟨N,rfl,_,_,hb⟩
 exact ⟨_,N,rfl,hb⟩
structure TokAt (w:World) (g:Nat) (k:Int) (t:ByteArray) (v a:Int):Prop where
 c0:w.cell? ⟨g,0,none⟩=some (.int .i64 k)
 c1:w.cell? ⟨g,1,none⟩=some (.string t)
 c2:w.cell? ⟨g,2,none⟩=some (.int .i64 v)
 c3:w.cell? ⟨g,3,none⟩=some (.int .i64 a)
 f0:w.frozen? ⟨g,0,none⟩=false
 f1:w.frozen? ⟨g,1,none⟩=false
 f2:w.frozen? ⟨g,2,none⟩=false
 f3:w.frozen? ⟨g,3,none⟩=false
theorem TokAt.new (w:World) (k:Int) (t:ByteArray) (v a:Int) (T:TypeId):TokAt (w.alloc (.cells #[.int .i64 k,.string t,.int .i64 v,.int .i64 a] T)) w.heap.size k t v a :=
 ⟨by simp [go_sem],by simp [go_sem],by simp [go_sem],by simp [go_sem],by simp [go_sem],by simp [go_sem],by simp [go_sem],by simp [go_sem]⟩
theorem TokAt.below {w w':World} {B g:Nat} {k:Int} {t:ByteArray} {v a:Int} (h:TokAt w g k t v a) (hb:Below B w w') (hg:g<B):TokAt w' g k t v a :=
 ⟨(hb.cell (p:=⟨g,0,none⟩) hg).trans h.c0,(hb.cell (p:=⟨g,1,none⟩) hg).trans h.c1,(hb.cell (p:=⟨g,2,none⟩) hg).trans h.c2,(hb.cell (p:=⟨g,3,none⟩) hg).trans h.c3,
  (hb.frozen (p:=⟨g,0,none⟩) hg).trans h.f0,(hb.frozen (p:=⟨g,1,none⟩) hg).trans h.f1,(hb.frozen (p:=⟨g,2,none⟩) hg).trans h.f2,(hb.frozen (p:=⟨g,3,none⟩) hg).trans h.f3⟩
theorem TokAt.lt {w:World} {g:Nat} {k:Int} {t:ByteArray} {v a:Int} (h:TokAt w g k t v a):g<w.heap.size:=World.block_lt_of_cell? _ _ h.c0
theorem set4 {w w1:World} (hB:Below w.heap.size w w1) {g:Nat} (hg:w.heap.size≤g) (x0 x1 x2 x3:Value) :
 Below w.heap.size w ((((w1.setCell ⟨g,0,none⟩ x0).setCell ⟨g,1,none⟩ x1).setCell ⟨g,2,none⟩ x2).setCell ⟨g,3,none⟩ x3) :=
 (((hB.setCell (p:=⟨g,0,none⟩) hg _).setCell (p:=⟨g,1,none⟩) hg _).setCell (p:=⟨g,2,none⟩) hg _).setCell (p:=⟨g,3,none⟩) hg _
theorem sr_ (s:ByteArray) (h0:0<s.size) (hd:∀x∈bl s,digitB x=true) (hs:s.size≤281474976710656) (hv:valD (bl s)≤most) (w:World) :
 Calls prog 220 #[.string s] w fun e w'=>e=.returned (.tuple #[tokV 3 s ((valD (bl s):Nat):Int) 0,.int .i64 0])∧Below w.heap.size w w':=by
 have hcall:=hid (fun W=>xh_ s h0 hd hs hv W)
 clear h0 hd hs hv
 generalize valD (bl s)=V at *
 go_enter func220,ntmps220
 go_wp2_with (go_at_call 252;refine (hcall.out _).mono ?_)
 rintro e w1 ⟨rfl,hb⟩
 have s1:=hb.size
 simp only [World.size_alloc] at s1
 obtain ⟨k0,k1,k2,k3,f0,f1,f2,f3⟩:=(TokAt.new w 0 ⟨#[]⟩ 0 0 151).below hb (by simp)
 have hB:Below w.heap.size w w1:=((Below.refl _ w).alloc (Nat.le_refl _) _).trans (hb.mono (by simp))
 go_wp2
 exact bodyPost_ret (v:=.tuple #[tokV 3 s (V:Int) 0,.int .i64 0]) (by simp [results,Tryz.results220,go_sem,k0,k1,k2,k3]) rfl ⟨rfl,set4 hB (Nat.le_refl _) _ _ _ _⟩
theorem rh_ (s:ByteArray) (h0:0<s.size) (hd:∀x∈bl s,digitB x=true) (hs:s.size≤281474976710656) (hv:most<valD (bl s)) (w:World) (hE:Env w) :
 Calls prog 220 #[.string s] w fun e w'=>e=.returned (.tuple #[tokV 0 ⟨#[]⟩ 0 0,.int .i64 3])∧Below w.heap.size w w':=by
 have hlt:=hE.lt
 have hcall:=hid (sq_ s h0 hd hs hv _ (hE.below ((Below.refl _ w).alloc (Nat.le_refl _) (.cells #[.int .i64 0,.string ⟨#[]⟩,.int .i64 0,.int .i64 0] 151)) hlt))
 clear h0 hd hs hv
 go_enter func220,ntmps220
 go_wp2_with (go_at_call 252;refine (hcall.out).mono ?_)
 rintro e w1 ⟨z,N,rfl,hb⟩
 have s1:=hb.size
 simp only [World.size_alloc] at s1
 obtain ⟨k0,k1,k2,k3,f0,f1,f2,f3⟩:=(TokAt.new w 0 ⟨#[]⟩ 0 0 151).below hb (by simp)
 have hB:Below w.heap.size w w1:=((Below.refl _ w).alloc (Nat.le_refl _) _).trans (hb.mono (by simp))
 go_wp2
 exact bodyPost_ret (v:=.tuple #[tokV 0 ⟨#[]⟩ 0 0,.int .i64 3]) (by simp [results,Tryz.results220,go_sem,k0,k1,k2,k3]) rfl ⟨rfl,set4 hB (Nat.le_refl _) _ _ _ _⟩
theorem xi_ (s:ByteArray) (h2:2≤s.size) (hs:s.size≤9223372036854775806) (h:bl (s.extract 0 2)∈marksL) (w:World) :
 Calls prog 221 #[.string s] w fun e w'=>e=.returned (.tuple #[tokV 4 (s.extract 0 2) 0 0,.int .i64 0])∧Below w.heap.size w w':=by
 have hcall:=hid (fun W=>jw_ (s.extract 0 2) h W)
 have hm:min (2:Int) (s.size:Int)=2:=by omega
 clear h
 go_enter func221,ntmps221
 go_wp2
 go_loop [4] (fun i=>i=.int .i64 2) (fun i=>(intOf i).toNat)
 case atStart=>rfl
 case round =>
  obtain rfl:=hrel
  go_wp2_with (go_at_call 253;refine (hcall.out _).mono ?_;rintro e w' ⟨rfl,rfl⟩)
  exact bodyPost_ret (v:=.tuple #[tokV 4 (s.extract 0 2) 0 0,.int .i64 0]) (by simp [results,Tryz.results221,go_sem]) rfl ⟨rfl,(Below.refl _ _).alloc (Nat.le_refl _) _⟩
theorem xj_ (s:ByteArray) (h1:1≤s.size) (hs:s.size≤9223372036854775806) (h:bl (s.extract 0 1)∈marksL) (hn:2≤s.size→bl (s.extract 0 2) ∉ marksL) (w:World) :
 Calls prog 221 #[.string s] w fun e w'=>e=.returned (.tuple #[tokV 4 (s.extract 0 1) 0 0,.int .i64 0])∧Below w.heap.size w w':=by
 have hcall:=hid (fun W=>jw_ (s.extract 0 1) h W)
 have hcall2:=hid (fun (h2:2≤s.size) W=>ie_ (s.extract 0 2) (hn h2) W)
 have hm:(∃k:Nat,1≤k∧k≤2∧k≤s.size∧min (2:Int) (s.size:Int)=k):=by
  by_cases h2:2≤s.size
  ·exact ⟨2,by omega,by omega,by omega,by omega⟩
  ·exact ⟨1,by omega,by omega,by omega,by omega⟩
 obtain ⟨k0,hk1,hk2,hk3,hm⟩:=hm
 clear h hn
 go_enter func221,ntmps221
 go_wp2
 go_loop [4] (fun i=>∃k:Nat,1≤k∧k≤2∧k≤s.size∧i=.int .i64 k) (fun i=>(intOf i).toNat)
 case atStart=>exact ⟨k0,hk1,hk2,hk3,rfl⟩
 case round =>
  clear hm hk1 hk2 hk3
  obtain ⟨k,hk1,hk2,hk3,rfl⟩:=hrel
  by_cases h2:k=2
  ·subst h2
   have hc:=hcall2.out hk3
   go_wp2_with (go_at_call 253;refine (hc _).mono ?_;rintro e w' ⟨rfl,rfl⟩)
   go_round
   case rel=>exact ⟨1,by omega,by omega,by omega,by go_num⟩
   case measure=>simp [intOf]
  ·obtain rfl:k=1:=by omega
   go_wp2_with (go_at_call 253;refine (hcall.out _).mono ?_;rintro e w' ⟨rfl,rfl⟩)
   exact bodyPost_ret (v:=.tuple #[tokV 4 (s.extract 0 1) 0 0,.int .i64 0]) (by simp [results,Tryz.results221,go_sem]) rfl ⟨rfl,(Below.refl _ _).alloc (Nat.le_refl _) _⟩
theorem mark_no (s:ByteArray) (h1:1≤s.size) (hs:s.size≤9223372036854775806) (h:bl (s.extract 0 1) ∉ marksL) (hn:2≤s.size→bl (s.extract 0 2) ∉ marksL) (w:World) :
 Calls prog 221 #[.string s] w fun e w'=>e=.returned (.tuple #[tokV 0 ⟨#[]⟩ 0 0,.int .i64 40])∧Below w.heap.size w w':=by
 have hcall:=hid (fun W=>ie_ (s.extract 0 1) h W)
 have hcall2:=hid (fun (h2:2≤s.size) W=>ie_ (s.extract 0 2) (hn h2) W)
 have hm:(∃k:Nat,k≤2∧k≤s.size∧min (2:Int) (s.size:Int)=k):=by
  by_cases h2:2≤s.size
  ·exact ⟨2,by omega,by omega,by omega⟩
  ·exact ⟨1,by omega,by omega,by omega⟩
 obtain ⟨k0,hk2,hk3,hm⟩:=hm
 clear h hn
 go_enter func221,ntmps221
 go_wp2
 go_loop [4] (fun i=>∃k:Nat,k≤2∧k≤s.size∧i=.int .i64 k) (fun i=>(intOf i).toNat)
 case atStart=>exact ⟨k0,hk2,hk3,rfl⟩
 case round =>
  clear hm hk2 hk3
  obtain ⟨k,hk2,hk3,rfl⟩:=hrel
  by_cases h2:k=2
  ·subst h2
   have hc:=hcall2.out hk3
   go_wp2_with (go_at_call 253;refine (hc _).mono ?_;rintro e w' ⟨rfl,rfl⟩)
   go_round
   case rel=>exact ⟨1,by omega,by omega,by go_num⟩
   case measure=>simp [intOf]
  by_cases h1':k=1
  ·subst h1'
   go_wp2_with (go_at_call 253;refine (hcall.out _).mono ?_;rintro e w' ⟨rfl,rfl⟩)
   go_round
   case rel=>exact ⟨0,by omega,by omega,by go_num⟩
   case measure=>simp [intOf]
  ·obtain rfl:k=0:=by omega
   go_wp2
   exact bodyPost_ret (v:=.tuple #[tokV 0 ⟨#[]⟩ 0 0,.int .i64 40]) (by simp [results,Tryz.results221,go_sem]) rfl ⟨rfl,(Below.refl _ _).alloc (Nat.le_refl _) _⟩
end Go.Proofs.YtpcniebkabkikaaGreatDoor
