/- Plain facts on words: what a text's words are, one by one from the left on; a word by itself, or with a blank behind it, is the same word. (No seat's own names: to be renamed to the seat that needs it.) A text's bytes as numbers. Sources that are handed in, of whatever names, labels and statements,  -/
import Derived.WalkKit
import Derived.Test.YtlpdjfimefjmcaaGreatDoorProg
import Derived.Test.YtlpdjfimefjmcaaGreatDoorFlFewerPR2
import Derived.Lib.Hide
import Derived.Laws.AppendOwnNone
namespace Go.Proofs.YtlpdjfimefjmcaaGreatDoor
def letterB (c:Nat):Bool:=(97≤c && c≤122) || c == 95
def digitB (c:Nat):Bool:=48≤c && c≤57
def blankB (c:Nat):Bool:=c == 9 || c == 10 || c == 13 || c == 32
def nameB (c:Nat):Bool:=letterB c || digitB c
def keysL:List (List Nat):=[[112,114,105,110,99,105,112,97,108],[103,108,111,98,97,108],[97,114,114,97,121],[99,104,97,110,110,101,108],[102,117,110,99],[118,97,114],[105,102],[101,108,115,101],[119,104,105,108,101],[115,101,110,100],[114,101,116,117,114,110]]
def mark1:List Nat:=[123,125,40,41,91,93,44,59,61,60,43,45,42,47,37,38,124,94,33,126]
def mark2:List (List Nat):=[[61,61],[33,61],[60,61],[60,60],[62,62]]
def wordL:List Nat→Nat × Nat
  | []=>(0,0)
  | c :: l =>
    if letterB c then
      let n:=((c :: l).takeWhile nameB).length
      (n,if (c :: l).take n ∈ keysL then 2 else 1)
    else if digitB c then (((c :: l).takeWhile digitB).length,3)
    else if (c :: l).take 2 ∈ mark2 then (2,4)
    else if c ∈ mark1 then (1,4)
    else (0,0)
theorem wordL_le (l:List Nat):(wordL l).1≤l.length:=by
  cases l with
  | nil=>simp [wordL]
  | cons c l =>
    rw [wordL]
    split
    · exact (List.takeWhile_sublist _).length_le
    · split
      · exact (List.takeWhile_sublist _).length_le
      · split
        · rename_i h
          have:((c :: l).take 2).length=2:=by
            have:∀ m ∈ mark2,m.length=2:=by decide
            exact this _ h
          rw [List.length_take] at this
          show 2≤_
          omega
        · split
          · simp
          · simp
theorem takeWhile_stop {p:Nat→Bool}:∀ (t r:List Nat),(∀ x ∈ t,p x=true)→(∀ c,r.head?=some c→p c=false)→(t++r).takeWhile p=t
  | [],r,_,hr=>by
    cases r with
    | nil=>rfl
    | cons c r=>simp [hr c rfl]
  | x :: t,r,ht,hr=>by
    rw [List.cons_append,List.takeWhile_cons,if_pos (ht x (List.mem_cons_self ..)),takeWhile_stop t r (fun y hy=>ht y (List.mem_cons_of_mem _ hy)) hr]
theorem mem_takeWhile {p:Nat→Bool}:∀ (l:List Nat) (x:Nat),x ∈ l.takeWhile p→p x=true
  | [],x,h=>absurd h (by simp)
  | c :: l,x,h=>by
    rw [List.takeWhile_cons] at h
    split at h
    · rename_i hc
      rcases List.mem_cons.1 h with rfl | h
      · exact hc
      · exact mem_takeWhile l x h
    · simp at h
theorem takeWhile_is_take {p:Nat→Bool}:∀ l:List Nat,l.take (l.takeWhile p).length=l.takeWhile p
  | []=>rfl
  | c :: l=>by
    rw [List.takeWhile_cons]
    split
    · rw [List.length_cons,List.take_succ_cons,takeWhile_is_take l]
    · rfl
theorem wordL_again (s:List Nat) (h:(wordL s).1 ≠ 0) (r:List Nat) (hr:r=[] ∨ ∃ r',r=32 :: r'):wordL (s.take (wordL s).1++r)=wordL s:=by
  cases s with
  | nil=>exact absurd rfl h
  | cons c l =>
    have hb:∀ x,r.head?=some x→nameB x=false∧digitB x=false:=by
      intro x hx
      rcases hr with rfl | ⟨r',rfl⟩
      · simp at hx
      · obtain rfl:32=x:=by simpa using hx
        decide
    by_cases hl:letterB c=true
    · have hw:wordL (c :: l)=(((c :: l).takeWhile nameB).length,if (c :: l).take ((c :: l).takeWhile nameB).length ∈ keysL then 2 else 1):=by
        rw [wordL,if_pos hl]
      rw [hw]
      simp only
      rw [takeWhile_is_take]
      have hn:nameB c=true:=by unfold nameB;rw [hl];rfl
      have hc:(c :: l).takeWhile nameB=c :: l.takeWhile nameB:=by rw [List.takeWhile_cons,if_pos hn]
      have hst:((c :: l).takeWhile nameB++r).takeWhile nameB=(c :: l).takeWhile nameB:=takeWhile_stop _ _ (fun x hx=>mem_takeWhile _ x hx) (fun x hx=>(hb x hx).1)
      rw [hc] at hst ⊢
      rw [List.cons_append] at hst ⊢
      rw [wordL,if_pos hl]
      simp only
      rw [hst,← List.cons_append,List.take_left]
    · by_cases hd:digitB c=true
      · have hw:wordL (c :: l)=(((c :: l).takeWhile digitB).length,3):=by rw [wordL,if_neg hl,if_pos hd]
        rw [hw]
        simp only
        rw [takeWhile_is_take]
        have hc:(c :: l).takeWhile digitB=c :: l.takeWhile digitB:=by rw [List.takeWhile_cons,if_pos hd]
        have hst:((c :: l).takeWhile digitB++r).takeWhile digitB=(c :: l).takeWhile digitB:=takeWhile_stop _ _ (fun x hx=>mem_takeWhile _ x hx) (fun x hx=>(hb x hx).2)
        rw [hc] at hst ⊢
        rw [List.cons_append] at hst ⊢
        rw [wordL,if_neg hl,if_pos hd,hst]
      · by_cases h2:(c :: l).take 2 ∈ mark2
        · have hw:wordL (c :: l)=(2,4):=by rw [wordL,if_neg hl,if_neg hd,if_pos h2]
          rw [hw]
          simp only
          obtain ⟨d,l',rfl⟩:∃ d l',l=d :: l':=by
            cases l with
            | nil=>exact absurd h2 (by simp [mark2])
            | cons d l'=>exact ⟨d,l',rfl⟩
          show wordL (c :: d :: r)=(2,4)
          rw [wordL,if_neg hl,if_neg hd,if_pos (by exact h2)]
        · by_cases h1:c ∈ mark1
          · have hw:wordL (c :: l)=(1,4):=by rw [wordL,if_neg hl,if_neg hd,if_neg h2,if_pos h1]
            rw [hw]
            show wordL (c :: r)=(1,4)
            rw [wordL,if_neg hl,if_neg hd,if_neg ?_,if_pos h1]
            rcases hr with rfl | ⟨r',rfl⟩
            · simp [mark2]
            · simp [mark2]
          · exact absurd (by rw [wordL,if_neg hl,if_neg hd,if_neg h2,if_neg h1]) h
end Go.Proofs.YtlpdjfimefjmcaaGreatDoor
namespace Go.Proofs.YtlpdjfimefjmcaaGreatDoor
open Go
def bl (s:ByteArray):List Nat:=s.data.toList.map UInt8.toNat
theorem bl_length (s:ByteArray):(bl s).length=s.size:=by simp [bl]
theorem bl_get (s:ByteArray) (i:Nat) (h:i<s.size):(bl s)[i]?=some (s[i]).toNat:=by
  unfold bl
  rw [List.getElem?_map,Array.getElem?_toList,Array.getElem?_eq_getElem (by simpa using h)]
  rfl
theorem bl_inj {s t:ByteArray} (h:bl s=bl t):s=t:=by
  unfold bl at h
  have:=(List.map_inj_right (fun a b e=>UInt8.toNat_inj.1 e)).1 h
  exact ByteArray.ext (Array.toList_inj.1 this)
end Go.Proofs.YtlpdjfimefjmcaaGreatDoor
namespace Go.Proofs.YtlpdjfimefjmcaaGreatDoor
open Go Go.RowKit Go.Proofs.Mm
structure DeZ where
  name:ByteArray
  label:Nat
structure ArZ where
  name:ByteArray
  len:Int
  label:Nat
structure FnZ where
  name:ByteArray
  level:Nat
  params:List DeZ
  results:List Nat
  vars:List DeZ
  body:List StZ
structure SoZ where
  principals:List ByteArray
  globals:List DeZ
  arrays:List ArZ
  channels:List DeZ
  funcs:List FnZ
instance:Inhabited DeZ:=⟨⟨⟨#[]⟩,0⟩⟩
instance:Inhabited ArZ:=⟨⟨⟨#[]⟩,0,0⟩⟩
instance:Inhabited FnZ:=⟨⟨⟨#[]⟩,0,[],[],[],[]⟩⟩
instance:Inhabited SoZ:=⟨⟨[],[],[],[],[]⟩⟩
def deZ (d:DeZ):List Value:=[.string d.name,.int .u64 (d.label:Nat)]
def laZ (l:Nat):List Value:=[.int .u64 (l:Nat)]
def arZv (a:ArZ):List Value:=[.string a.name,.int .i64 a.len,.int .u64 (a.label:Nat)]
def mkD (lt:Bool):List Value:=if lt then [.string ⟨#[109,97,114,107]⟩,.int .u64 0] else []
def mkL (lt:Bool):List Value:=if lt then [.int .u64 7171] else []
def mkA (lt:Bool):List Value:=if lt then [.string ⟨#[109,97,114,107]⟩,.int .i64 0,.int .u64 0] else []
def mkF (lt:Bool):List Value:=if lt then [.string ⟨#[109,97,114,107]⟩,.int .u64 0,.slice none 0 0,.slice none 0 0,.slice none 0 0,.slice none 0 0] else []
def u64B:Nat:=18446744073709551616
def DesR (lt:Bool) (C:Cl) (v:Value) (l:List DeZ):Prop:=SlX (mkD lt) 24 C (fun c d=>c=deZ d∧d.label<u64B) v l
def LasR (lt:Bool) (C:Cl) (v:Value) (l:List Nat):Prop:=SlX (mkL lt) 8 C (fun c x=>c=laZ x∧x<u64B) v l
def ArsR (lt:Bool) (C:Cl) (v:Value) (l:List ArZ):Prop:=SlX (mkA lt) 32 C (fun c a=>c=arZv a∧a.label<u64B) v l
def FnR1 (lt:Bool) (C:Cl) (c:List Value) (f:FnZ):Prop :=
  ∃ vp vr vv vb,c=[.string f.name,.int .u64 (f.level:Nat),vp,vr,vv,vb]∧f.level<u64B∧DesR lt C vp f.params∧LasR lt C vr f.results∧DesR lt C vv f.vars∧BdR lt C vb f.body
def FnsR (lt:Bool) (C:Cl) (v:Value) (l:List FnZ):Prop:=SlX (mkF lt) 120 C (FnR1 lt C) v l
def SrcR (lt:Bool) (C:Cl) (v:Value) (s:SoZ):Prop :=
  ∃ v1 v2 v3 v4 v5,v=.agg #[v1,v2,v3,v4,v5]∧StrR lt C v1 s.principals∧DesR lt C v2 s.globals∧ArsR lt C v3 s.arrays∧DesR lt C v4 s.channels∧FnsR lt C v5 s.funcs
theorem de_lenZ (c:List Value) (d:DeZ) (h:c=deZ d∧d.label<u64B):c.length=2:=by rw [h.1];rfl
theorem la_lenZ (c:List Value) (d:Nat) (h:c=laZ d∧d<u64B):c.length=1:=by rw [h.1];rfl
theorem ar_lenZ (c:List Value) (d:ArZ) (h:c=arZv d∧d.label<u64B):c.length=3:=by rw [h.1];rfl
theorem str_lenZ (c:List Value) (d:ByteArray) (h:c=[Value.string d]):c.length=1:=by rw [h];rfl
theorem tm_lenZ (c:List Value) (d:TmZ) (h:c=tmZ d):c.length=3:=by rw [h];rfl
section
variable {lt:Bool} {C D:Cl}
theorem ex_lenZ (c:List Value) (d:List TmZ) (h:ExR1 lt C c d):c.length=1:=by obtain ⟨u,rfl,_⟩:=h;rfl
theorem st_lenZ (c:List Value) (d:StZ) (h:StR1 lt C c d):c.length=4:=by obtain ⟨vt,ve,rfl,_⟩:=h;rfl
theorem fn_lenZ (c:List Value) (d:FnZ) (h:FnR1 lt C c d):c.length=6:=by obtain ⟨a,b,e,f,rfl,_⟩:=h;rfl
theorem DesR.le {v:Value} {l:List DeZ} (h:DesR lt C v l) (hc:CLe C D):DesR lt D v l:=SlX.mono h hc fun _ _ e=>e
theorem LasR.le {v:Value} {l:List Nat} (h:LasR lt C v l) (hc:CLe C D):LasR lt D v l:=SlX.mono h hc fun _ _ e=>e
theorem ArsR.le {v:Value} {l:List ArZ} (h:ArsR lt C v l) (hc:CLe C D):ArsR lt D v l:=SlX.mono h hc fun _ _ e=>e
theorem FnR1.le {c:List Value} {f:FnZ} (h:FnR1 lt C c f) (hc:CLe C D):FnR1 lt D c f:=by
  obtain ⟨vp,vr,vv,vb,e,h0,h1,h2,h3,h4⟩:=h
  exact ⟨vp,vr,vv,vb,e,h0,h1.le hc,h2.le hc,h3.le hc,h4.le hc⟩
theorem FnsR.le {v:Value} {l:List FnZ} (h:FnsR lt C v l) (hc:CLe C D):FnsR lt D v l:=SlX.mono h hc fun _ _ e=>e.le hc
theorem SrcR.le {v:Value} {s:SoZ} (h:SrcR lt C v s) (hc:CLe C D):SrcR lt D v s:=by
  obtain ⟨v1,v2,v3,v4,v5,e,h1,h2,h3,h4,h5⟩:=h
  exact ⟨v1,v2,v3,v4,v5,e,h1.le hc,h2.le hc,h3.le hc,h4.le hc,h5.le hc⟩
end
def StrAt (C:Cl) (q:Option Addr) (l:List ByteArray):Prop:=∀ j (hj:j<l.length),∃ g o,q=some ⟨g,o,none⟩∧C ⟨g,o+j,none⟩=some (.string l[j])
def DeAt (C:Cl) (q:Option Addr) (l:List DeZ):Prop:=∀ j (hj:j<l.length),∃ g o,q=some ⟨g,o,none⟩∧C ⟨g,o+j * 2,none⟩=some (.string l[j].name)∧C ⟨g,o+j * 2+1,none⟩=some (.int .u64 (l[j].label:Nat))∧l[j].label<u64B
def LaAt (C:Cl) (q:Option Addr) (l:List Nat):Prop:=∀ j (hj:j<l.length),∃ g o,q=some ⟨g,o,none⟩∧C ⟨g,o+j,none⟩=some (.int .u64 (l[j]:Nat))∧l[j]<u64B
def ArAt (C:Cl) (q:Option Addr) (l:List ArZ):Prop:=∀ j (hj:j<l.length),∃ g o,q=some ⟨g,o,none⟩∧C ⟨g,o+j * 3,none⟩=some (.string l[j].name)∧C ⟨g,o+j * 3+1,none⟩=some (.int .i64 l[j].len)∧C ⟨g,o+j * 3+2,none⟩=some (.int .u64 (l[j].label:Nat))∧l[j].label<u64B
def TmAt (C:Cl) (q:Option Addr) (l:List TmZ):Prop:=∀ j (hj:j<l.length),∃ g o,q=some ⟨g,o,none⟩∧C ⟨g,o+j * 3,none⟩=some (.int .i64 l[j].kind)∧C ⟨g,o+j * 3+1,none⟩=some (.int .i64 l[j].value)∧C ⟨g,o+j * 3+2,none⟩=some (.string l[j].name)
def ExAt (lt:Bool) (C:Cl) (q:Option Addr) (l:List (List TmZ)):Prop:=∀ j (hj:j<l.length),∃ g o qe ce,q=some ⟨g,o,none⟩∧C ⟨g,o+j,none⟩=some (.slice qe l[j].length ce)∧TmsR lt C (.slice qe l[j].length ce) l[j]
def StAt (lt:Bool) (C:Cl) (q:Option Addr) (l:List StZ):Prop:=∀ j (hj:j<l.length),∃ g o qt ct qe ce,q=some ⟨g,o,none⟩∧C ⟨g,o+j * 4,none⟩=some (.int .i64 l[j].kind)∧C ⟨g,o+j * 4+1,none⟩=some (.string l[j].name)∧C ⟨g,o+j * 4+2,none⟩=some (.slice qt l[j].targets.length ct)∧C ⟨g,o+j * 4+3,none⟩=some (.slice qe l[j].exprs.length ce)∧StrR lt C (.slice qt l[j].targets.length ct) l[j].targets∧ExsR lt C (.slice qe l[j].exprs.length ce) l[j].exprs
def FnLies (lt:Bool) (C:Cl) (f:FnZ) (qp:Option Addr) (cp:Nat) (qr:Option Addr) (cr:Nat) (qv:Option Addr) (cv:Nat) (qb:Option Addr) (cb:Nat):Prop :=
  f.level<u64B∧DesR lt C (.slice qp f.params.length cp) f.params∧LasR lt C (.slice qr f.results.length cr) f.results∧DesR lt C (.slice qv f.vars.length cv) f.vars∧BdR lt C (.slice qb f.body.length cb) f.body
def FnAt (lt:Bool) (C:Cl) (q:Option Addr) (l:List FnZ):Prop:=∀ j (hj:j<l.length),∃ g o qp cp qr cr qv cv qb cb,q=some ⟨g,o,none⟩∧C ⟨g,o+j * 6,none⟩=some (.string l[j].name)∧C ⟨g,o+j * 6+1,none⟩=some (.int .u64 (l[j].level:Nat)) ∧
  C ⟨g,o+j * 6+2,none⟩=some (.slice qp l[j].params.length cp)∧C ⟨g,o+j * 6+3,none⟩=some (.slice qr l[j].results.length cr)∧C ⟨g,o+j * 6+4,none⟩=some (.slice qv l[j].vars.length cv)∧C ⟨g,o+j * 6+5,none⟩=some (.slice qb l[j].body.length cb)∧FnLies lt C l[j] qp cp qr cr qv cv qb cb
theorem slx_shape {α:Type} {mk:List Value} {bs:Nat} {C:Cl} {R:List Value→α→Prop} {v:Value} {l:List α} (h:SlX mk bs C R v l):∃ q c,v=.slice q l.length c:=let ⟨q,c,_,e,_⟩:=h;⟨q,c,e⟩
theorem slx_len {α:Type} {mk:List Value} {bs:Nat} {C:Cl} {R:List Value→α→Prop} {v:Value} {l:List α} (h:SlX mk bs C R v l):l.length * bs≤140737488351232:=by
  obtain ⟨_,_,_,_,_,_,_,h5,_⟩:=h;exact h5
section
variable {lt:Bool} {C:Cl} {q:Option Addr} {n c:Nat}
theorem slx_at {α:Type} {mk:List Value} {bs:Nat} {R:List Value→α→Prop} {l:List α} {size:Nat} (h:SlX mk (bs+1) C R (.slice q n c) l) (hs:0<size) (hR:∀ c x,R c x→c.length=size) :
    ∀ j (hj:j<l.length),∃ g o e,q=some ⟨g,o,none⟩∧R e l[j]∧∀ r u,r<size→e[r]?=some u→C ⟨g,o+j * size+r,none⟩=some u:=by
  intro j hj
  obtain ⟨q',c',e1,_,_,_,ha,_⟩:=h.at hs hR
  obtain ⟨rfl,_,_⟩:q=q'∧n=l.length∧c=c':=by injection e1 with a b c;exact ⟨a,b,c⟩
  obtain ⟨g,o,e,h1,h2,h3⟩:=ha j hj
  exact ⟨g,o,e,h1,h2,fun r u hr hu=>by rw [Nat.add_assoc];exact h3 r u hr hu⟩
theorem StrR.cells {l:List ByteArray} (h:StrR lt C (.slice q n c) l):StrAt C q l:=by
  intro j hj
  obtain ⟨g,o,e,h1,rfl,h3⟩:=slx_at (size:=1) h (by decide) str_lenZ j hj
  refine ⟨g,o,h1,?_⟩
  have:=h3 0 _ (by decide) rfl
  simpa using this
theorem DesR.cells {l:List DeZ} (h:DesR lt C (.slice q n c) l):DeAt C q l:=by
  intro j hj
  obtain ⟨g,o,e,h1,⟨rfl,hb⟩,h3⟩:=slx_at (size:=2) h (by decide) de_lenZ j hj
  exact ⟨g,o,h1,h3 0 _ (by decide) rfl,h3 1 _ (by decide) rfl,hb⟩
theorem LasR.cells {l:List Nat} (h:LasR lt C (.slice q n c) l):LaAt C q l:=by
  intro j hj
  obtain ⟨g,o,e,h1,⟨rfl,hb⟩,h3⟩:=slx_at (size:=1) h (by decide) la_lenZ j hj
  refine ⟨g,o,h1,?_,hb⟩
  have:=h3 0 _ (by decide) rfl
  simpa using this
theorem ArsR.cells {l:List ArZ} (h:ArsR lt C (.slice q n c) l):ArAt C q l:=by
  intro j hj
  obtain ⟨g,o,e,h1,⟨rfl,hb⟩,h3⟩:=slx_at (size:=3) h (by decide) ar_lenZ j hj
  exact ⟨g,o,h1,h3 0 _ (by decide) rfl,h3 1 _ (by decide) rfl,h3 2 _ (by decide) rfl,hb⟩
theorem TmsR.cells {l:List TmZ} (h:TmsR lt C (.slice q n c) l):TmAt C q l:=by
  intro j hj
  obtain ⟨g,o,e,h1,rfl,h3⟩:=slx_at (size:=3) h (by decide) tm_lenZ j hj
  exact ⟨g,o,h1,h3 0 _ (by decide) rfl,h3 1 _ (by decide) rfl,h3 2 _ (by decide) rfl⟩
theorem ExsR.cells {l:List (List TmZ)} (h:ExsR lt C (.slice q n c) l):ExAt lt C q l:=by
  intro j hj
  obtain ⟨g,o,e,h1,⟨u,rfl,hu⟩,h3⟩:=slx_at (size:=1) h (by decide) ex_lenZ j hj
  obtain ⟨qe,ce,rfl⟩:=slx_shape hu
  refine ⟨g,o,qe,ce,h1,?_,hu⟩
  have:=h3 0 _ (by decide) rfl
  simpa using this
theorem BdR.cells {l:List StZ} (h:BdR lt C (.slice q n c) l):StAt lt C q l:=by
  intro j hj
  obtain ⟨g,o,e,h1,⟨vt,ve,rfl,ht,he⟩,h3⟩:=slx_at (size:=4) h (by decide) st_lenZ j hj
  obtain ⟨qt,ct,rfl⟩:=slx_shape ht
  obtain ⟨qe,ce,rfl⟩:=slx_shape he
  exact ⟨g,o,qt,ct,qe,ce,h1,h3 0 _ (by decide) rfl,h3 1 _ (by decide) rfl,h3 2 _ (by decide) rfl,h3 3 _ (by decide) rfl,ht,he⟩
theorem FnsR.cells {l:List FnZ} (h:FnsR lt C (.slice q n c) l):FnAt lt C q l:=by
  intro j hj
  obtain ⟨g,o,e,h1,⟨vp,vr,vv,vb,rfl,hl,hp,hr,hv,hb⟩,h3⟩:=slx_at (size:=6) h (by decide) fn_lenZ j hj
  obtain ⟨qp,cp,rfl⟩:=slx_shape hp
  obtain ⟨qr,cr,rfl⟩:=slx_shape hr
  obtain ⟨qv,cv,rfl⟩:=slx_shape hv
  obtain ⟨qb,cb,rfl⟩:=slx_shape hb
  exact ⟨g,o,qp,cp,qr,cr,qv,cv,qb,cb,h1,h3 0 _ (by decide) rfl,h3 1 _ (by decide) rfl,h3 2 _ (by decide) rfl,h3 3 _ (by decide) rfl,h3 4 _ (by decide) rfl,h3 5 _ (by decide) rfl,hl,hp,hr,hv,hb⟩
end
end Go.Proofs.YtlpdjfimefjmcaaGreatDoor
namespace Go.Proofs.YtlpdjfimefjmcaaGreatDoor
open Go Go.RowKit Go.Proofs.Mm
theorem str_len (c:List Value) (d:ByteArray) (h:c=[Value.string d]):c.length=1:=str_lenZ c d h
theorem tm_len (c:List Value) (d:TmZ) (h:c=tmZ d):c.length=3:=tm_lenZ c d h
theorem ex_len {lt:Bool} {C:Cl} (c:List Value) (d:List TmZ) (h:ExR1 lt C c d):c.length=1:=ex_lenZ c d h
theorem st_len {lt:Bool} {C:Cl} (c:List Value) (d:StZ) (h:StR1 lt C c d):c.length=4:=st_lenZ c d h
theorem und_strs:Tryz.prog.underlying 22=some (.slice 9):=by kernel_rfl
theorem und_tms:Tryz.prog.underlying 97=some (.slice 140):=by kernel_rfl
theorem und_exs:Tryz.prog.underlying 45=some (.slice 97):=by kernel_rfl
theorem und_sts:Tryz.prog.underlying 41=some (.slice 47):=by kernel_rfl
theorem infoOf {P:Program} {t:TypeId} {z:Value} {size bytes:Nat} (h:(P.info? t).map (fun i=>(i.zero,i.size,i.bytes))=some (some z,size,bytes)):∃ i,P.info? t=some i∧i.zero=some z∧i.size=size∧i.bytes=bytes:=by
  cases hi:P.info? t with
  | none=>rw [hi] at h;cases h
  | some i =>
    rw [hi] at h
    simp only [Option.map_some,Option.some.injEq,Prod.mk.injEq] at h
    exact ⟨i,rfl,h.1,h.2.1,h.2.2⟩
theorem infoSr:∃ i,Tryz.prog.info? 9=some i∧i.zero=some (.string ⟨#[]⟩)∧i.size=1∧i.bytes=16:=infoOf (by kernel_rfl)
theorem infoTz:∃ i,Tryz.prog.info? 140=some i∧i.zero=some (.agg #[.int .i64 0,.int .i64 0,.string ⟨#[]⟩])∧i.size=3∧i.bytes=32:=infoOf (by kernel_rfl)
theorem infoEz:∃ i,Tryz.prog.info? 97=some i∧i.zero=some (.slice none 0 0)∧i.size=1∧i.bytes=24:=infoOf (by kernel_rfl)
theorem infoSz:∃ i,Tryz.prog.info? 47=some i∧i.zero=some (.agg #[.int .i64 0,.string ⟨#[]⟩,.slice none 0 0,.slice none 0 0])∧i.size=4∧i.bytes=72:=infoOf (by kernel_rfl)
theorem lent_done {α:Type} {w w':World} {m:Mem} {E:TypeId} {size bs n c:Nat} {q:Option Addr} {cs mk:List Value} {R:Mem→List Value→α→Prop} {l:List α} (hm:Has w' m) (hv:∀ k,(Value.slice q (n+1) c).ownBlock=some k→m k=none)
    (hrow:w'.ownsRow w.heap.size E size (.slice q (n+1) c) (n+1) (cs++mk)) (hl:l.length=n) (he:Enc (R m) cs l) (hR:∀ m m':Mem,m.le m'→∀ c x,R m c x→R m' c x) (hb:n * bs≤140737488351232) :
    ∃ m',m.More w m'∧Has w' m'∧SlX mk bs (mC m') (R m') (.slice q n c) l:=by
  have hcap:n+1≤c∧c≤maxLen∧q ≠ none:=by
    rcases hrow.2 with ⟨_,h0⟩ | ⟨g',cap',cur,h0,_,_,h1,h2,_⟩
    · omega
    · injection h0 with h3 _ h4
      subst h4
      exact ⟨h1,h2,by rw [h3];simp⟩
  obtain ⟨m',h1,h2,h3,h4⟩:=RowM.done hrow hm hv
  refine ⟨m',⟨h1,fun k hk hlt=>?_⟩,h3,q,c,cs,by rw [hl],.inr (by omega),RowM.rdO h4,he.mono (hR _ _ h1),by rw [hl];exact hb,hcap.2.1,fun h=>absurd h hcap.2.2,by omega⟩
  cases hx:m' k with
  | none=>rfl
  | some o =>
    rcases h2 k (by rw [hx];simp) with h | h
    · exact absurd hk h
    · have:=(hrow.lt k h).1
      omega
theorem has_grown {w w':World} {m:Mem} (h:Has w m) (hb:Below w.heap.size w w'):Has w' m:=fun k o e=>by
  have:=h k o e
  rw [hb.block k (heap_lt this)];exact this
theorem enc_cells {α:Type} {C:Cl} {R:List Value→α→Prop} {l:List α} {cs:List Value} {g o:Nat} (_h:Enc R cs l) (hr:∀ j u,cs[j]?=some u→C ⟨g,o+j,none⟩=some u):∀ j u,cs[j]?=some u→C ((⟨g,o,none⟩:Addr).add j)=some u:=by
  intro j u hu
  rw [show ((⟨g,o,none⟩:Addr).add j)=⟨g,o+j,none⟩ from by unfold Addr.add;split <;> simp_all]
  exact hr j u hu
theorem str_one {l:List ByteArray} {cs:List Value} (h:Enc (fun c s=>c=[Value.string s]) cs l):∀ u ∈ cs,u.oneCell'=true:=by
  induction l generalizing cs with
  | nil=>obtain rfl:cs=[]:=h;intro u hu;cases hu
  | cons x l ih =>
    obtain ⟨c,r,rfl,rfl,h2⟩:=h
    intro u hu
    rcases List.mem_append.1 hu with hu | hu
    · rw [List.mem_singleton.1 hu];rfl
    · exact ih h2 u hu
theorem tms_one {l:List TmZ} {cs:List Value} (h:Enc (fun c s=>c=tmZ s) cs l):∀ u ∈ cs,u.oneCell'=true:=by
  induction l generalizing cs with
  | nil=>obtain rfl:cs=[]:=h;intro u hu;cases hu
  | cons x l ih =>
    obtain ⟨c,r,rfl,rfl,h2⟩:=h
    intro u hu
    rcases List.mem_append.1 hu with hu | hu
    · simp only [tmZ,List.mem_cons,List.not_mem_nil,or_false] at hu
      rcases hu with rfl | rfl | rfl <;> rfl
    · exact ih h2 u hu
set_option maxRecDepth 100000 in
set_option maxHeartbeats 2000000 in
theorem lentStrings_any {w:World} {v:Value} {l:List ByteArray} (h:StrR false (wC w) v l) {m:Mem} (hm:Has w m) :
    Calls Tryz.prog 19 #[v] w fun e w'=>∃ v' m',e=.returned v'∧Below w.heap.size w w'∧m.More w m'∧Has w' m'∧StrR true (mC m') v' l:=by
  obtain ⟨q,c,cs,rfl,_,hr,he,hb,hmax,hqn,hlc⟩:=h
  obtain ⟨n,hn⟩:∃ n,l.length=n:=⟨_,rfl⟩
  obtain ⟨hcl,_⟩:=encZ_at str_len he
  have hon:=str_one he
  have HE:=Lib.hid he
  have HN:=Lib.hid hn
  have HM:=Lib.hid hm
  rw [hn] at hb hcl hlc ⊢
  clear he hn hm
  obtain ⟨i2,h2,h3,h4,h5⟩:=infoSr
  have hnil:=World.ownsRow_nil w w.heap.size 9 1
  have HF:=Lib.hid (show ∀ k,w.heap.size≤k→m k=none from fun k hk=>HM.out.lt hk)
  have hone:∀ u ∈ mkS true,u.oneCell'=true:=by intro u hu;simp only [mkS,if_true,List.mem_cons,List.not_mem_nil,or_false] at hu;(subst hu;rfl)
  rcases q with _ | ad
  · obtain rfl:c=0:=hqn rfl
    obtain rfl:n=0:=by omega
    have hc0:cs=[]:=List.eq_nil_of_length_eq_zero (by simpa using hcl)
    subst hc0
    have hR1:=hnil.alloc (.cells (mkS true).toArray 9)
    have hnew:=row_new w (mkS true) 9
    go_enter Tryz.func19,Tryz.ntmps19
    go_wp2_with (first | (at_builtin;refine wpList_append_own_none rfl _ _ 22 rfl w.heap.size 9 i2 1 und_strs h2 _ 0 [] rfl hnil rfl ?_) | (at_builtin;refine wpList_append_own _ rfl _ _ 22 rfl w.heap.size 9 i2 _ 1 16 und_strs h2 h3 h4 h5 rfl (by decide) _ 0 [] rfl hR1 ⟨w.heap.size,0,none⟩ 1 1 (mkS true) rfl rfl hnew hone (by unfold maxLen;omega) (by omega) (by simp) ?_))
    intro v2 w2 hR2 hg2 _
    obtain ⟨q2,c2,rfl⟩:=own_shape hR2
    have hB2:Below w.heap.size w w2:=grown_below ((Below.refl _ w).alloc (Nat.le_refl _) _) (by simp) hg2 (fun j hj=>(hR1.lt j hj).1)
    have HD:=Lib.hid (lent_done (w:=w) (bs:=16) (R:=fun _=>(fun c s=>c=[Value.string s])) (has_grown HM.out hB2) (fun k hk=>HF.out k (hR2.lt k hk).1) (by simpa using hR2) HN.out HE.out (fun _ _ _ _ _ h=>h) (by omega))
    have HB:=Lib.hid hB2
    have hcap:1≤c2:=by
      rcases hR2.2 with ⟨_,h0⟩ | ⟨g',cap',cur,h0,_,_,h1,_,_⟩
      · omega
      · injection h0 with _ _ h4
        omega
    clear hg2 hR1 hnil hB2 hR2
    go_wp2
    go_ret
    obtain ⟨m',d1,d2,d3⟩:=HD.out
    exact ⟨_,m',rfl,HB.out,d1,d2,d3⟩
  · have hcl2:∀ j u,cs[j]?=some u→w.cell? (ad.add j)=some u:=by
      rcases hr with hr | ⟨g,o,hq,hr⟩
      · have:=(List.append_eq_nil_iff.1 hr).1
        subst this
        intro j u hu
        simp at hu
      · injection hq with hq
        subst hq
        exact enc_cells HE.out (fun j u hu=>hr j u (by rw [List.getElem?_append_left ((List.getElem?_eq_some_iff.1 hu).1)];exact hu))
    clear hr
    go_enter Tryz.func19,Tryz.ntmps19
    go_wp2_with (at_builtin;refine wpList_append_own _ rfl _ _ 22 rfl w.heap.size 9 i2 _ 1 16 und_strs h2 h3 h4 h5 rfl (by decide) _ 0 [] rfl hnil ad n c cs rfl hcl hcl2 hon (by unfold maxLen;omega) (by omega) (Nat.le_refl _) ?_)
    intro v1 w1 hR1 hg1 _
    obtain ⟨q1,c1,rfl⟩:=own_shape hR1
    have hB1:Below w.heap.size w w1:=grown_below (Below.refl _ w) (Nat.le_refl _) hg1 (fun j hj=>by cases hj)
    have hw1:=hB1.size
    have hR1':=hR1.alloc (.cells (mkS true).toArray 9)
    have hnew:=row_new w1 (mkS true) 9
    try simp only [Nat.zero_add,List.nil_append] at hR1 hR1'
    clear hg1 hnil hcl2 hon hR1
    go_wp2_with (at_builtin;refine wpList_append_own _ rfl _ _ 22 rfl w.heap.size 9 i2 _ 1 16 und_strs h2 h3 h4 h5 rfl (by decide) _ n cs rfl hR1' ⟨w1.heap.size,0,none⟩ 1 1 (mkS true) rfl rfl hnew hone (by unfold maxLen;omega) (by omega) (by simp <;> omega) ?_)
    intro v2 w2 hR2 hg2 _
    obtain ⟨q2,c2,rfl⟩:=own_shape hR2
    have hB2:Below w.heap.size w w2:=grown_below (hB1.alloc hw1 _) (by simp;omega) hg2 (fun j hj=>(hR1'.lt j hj).1)
    have HD:=Lib.hid (lent_done (w:=w) (bs:=16) (R:=fun _=>(fun c s=>c=[Value.string s])) (has_grown HM.out hB2) (fun k hk=>HF.out k (hR2.lt k hk).1) hR2 HN.out HE.out (fun _ _ _ _ _ h=>h) (by omega))
    have HB:=Lib.hid hB2
    have hcap:n+1≤c2:=by
      rcases hR2.2 with ⟨_,h0⟩ | ⟨g',cap',cur,h0,_,_,h1,_,_⟩
      · omega
      · injection h0 with _ _ h4
        omega
    clear hg2 hR1' hB2 hR2 hB1
    go_wp2
    go_ret
    obtain ⟨m',d1,d2,d3⟩:=HD.out
    exact ⟨_,m',rfl,HB.out,d1,d2,d3⟩
set_option maxRecDepth 100000 in
set_option maxHeartbeats 2000000 in
theorem lentTerms_any {w:World} {v:Value} {l:List TmZ} (h:TmsR false (wC w) v l) {m:Mem} (hm:Has w m) :
    Calls Tryz.prog 46 #[v] w fun e w'=>∃ v' m',e=.returned v'∧Below w.heap.size w w'∧m.More w m'∧Has w' m'∧TmsR true (mC m') v' l:=by
  obtain ⟨q,c,cs,rfl,_,hr,he,hb,hmax,hqn,hlc⟩:=h
  obtain ⟨n,hn⟩:∃ n,l.length=n:=⟨_,rfl⟩
  obtain ⟨hcl,_⟩:=encZ_at tm_len he
  have hon:=tms_one he
  have HE:=Lib.hid he
  have HN:=Lib.hid hn
  have HM:=Lib.hid hm
  rw [hn] at hb hcl hlc ⊢
  clear he hn hm
  obtain ⟨i2,h2,h3,h4,h5⟩:=infoTz
  have hnil:=World.ownsRow_nil w w.heap.size 140 3
  have HF:=Lib.hid (show ∀ k,w.heap.size≤k→m k=none from fun k hk=>HM.out.lt hk)
  have hone:∀ u ∈ mkT true,u.oneCell'=true:=by intro u hu;simp only [mkT,if_true,List.mem_cons,List.not_mem_nil,or_false] at hu;(rcases hu with rfl | rfl | rfl <;> rfl)
  rcases q with _ | ad
  · obtain rfl:c=0:=hqn rfl
    obtain rfl:n=0:=by omega
    have hc0:cs=[]:=List.eq_nil_of_length_eq_zero (by simpa using hcl)
    subst hc0
    have hR1:=hnil.alloc (.cells (mkT true).toArray 140)
    have hnew:=row_new w (mkT true) 140
    go_enter Tryz.func46,Tryz.ntmps46
    go_wp2_with (first | (at_builtin;refine wpList_append_own_none rfl _ _ 97 rfl w.heap.size 140 i2 3 und_tms h2 _ 0 [] rfl hnil rfl ?_) | (at_builtin;refine wpList_append_own _ rfl _ _ 97 rfl w.heap.size 140 i2 _ 3 32 und_tms h2 h3 h4 h5 rfl (by decide) _ 0 [] rfl hR1 ⟨w.heap.size,0,none⟩ 1 1 (mkT true) rfl rfl hnew hone (by unfold maxLen;omega) (by omega) (by simp) ?_))
    intro v2 w2 hR2 hg2 _
    obtain ⟨q2,c2,rfl⟩:=own_shape hR2
    have hB2:Below w.heap.size w w2:=grown_below ((Below.refl _ w).alloc (Nat.le_refl _) _) (by simp) hg2 (fun j hj=>(hR1.lt j hj).1)
    have HD:=Lib.hid (lent_done (w:=w) (bs:=32) (R:=fun _=>(fun c s=>c=tmZ s)) (has_grown HM.out hB2) (fun k hk=>HF.out k (hR2.lt k hk).1) (by simpa using hR2) HN.out HE.out (fun _ _ _ _ _ h=>h) (by omega))
    have HB:=Lib.hid hB2
    have hcap:1≤c2:=by
      rcases hR2.2 with ⟨_,h0⟩ | ⟨g',cap',cur,h0,_,_,h1,_,_⟩
      · omega
      · injection h0 with _ _ h4
        omega
    clear hg2 hR1 hnil hB2 hR2
    go_wp2
    go_ret
    obtain ⟨m',d1,d2,d3⟩:=HD.out
    exact ⟨_,m',rfl,HB.out,d1,d2,d3⟩
  · have hcl2:∀ j u,cs[j]?=some u→w.cell? (ad.add j)=some u:=by
      rcases hr with hr | ⟨g,o,hq,hr⟩
      · have:=(List.append_eq_nil_iff.1 hr).1
        subst this
        intro j u hu
        simp at hu
      · injection hq with hq
        subst hq
        exact enc_cells HE.out (fun j u hu=>hr j u (by rw [List.getElem?_append_left ((List.getElem?_eq_some_iff.1 hu).1)];exact hu))
    clear hr
    go_enter Tryz.func46,Tryz.ntmps46
    go_wp2_with (at_builtin;refine wpList_append_own _ rfl _ _ 97 rfl w.heap.size 140 i2 _ 3 32 und_tms h2 h3 h4 h5 rfl (by decide) _ 0 [] rfl hnil ad n c cs rfl hcl hcl2 hon (by unfold maxLen;omega) (by omega) (Nat.le_refl _) ?_)
    intro v1 w1 hR1 hg1 _
    obtain ⟨q1,c1,rfl⟩:=own_shape hR1
    have hB1:Below w.heap.size w w1:=grown_below (Below.refl _ w) (Nat.le_refl _) hg1 (fun j hj=>by cases hj)
    have hw1:=hB1.size
    have hR1':=hR1.alloc (.cells (mkT true).toArray 140)
    have hnew:=row_new w1 (mkT true) 140
    try simp only [Nat.zero_add,List.nil_append] at hR1 hR1'
    clear hg1 hnil hcl2 hon hR1
    go_wp2_with (at_builtin;refine wpList_append_own _ rfl _ _ 97 rfl w.heap.size 140 i2 _ 3 32 und_tms h2 h3 h4 h5 rfl (by decide) _ n cs rfl hR1' ⟨w1.heap.size,0,none⟩ 1 1 (mkT true) rfl rfl hnew hone (by unfold maxLen;omega) (by omega) (by simp <;> omega) ?_)
    intro v2 w2 hR2 hg2 _
    obtain ⟨q2,c2,rfl⟩:=own_shape hR2
    have hB2:Below w.heap.size w w2:=grown_below (hB1.alloc hw1 _) (by simp;omega) hg2 (fun j hj=>(hR1'.lt j hj).1)
    have HD:=Lib.hid (lent_done (w:=w) (bs:=32) (R:=fun _=>(fun c s=>c=tmZ s)) (has_grown HM.out hB2) (fun k hk=>HF.out k (hR2.lt k hk).1) hR2 HN.out HE.out (fun _ _ _ _ _ h=>h) (by omega))
    have HB:=Lib.hid hB2
    have hcap:n+1≤c2:=by
      rcases hR2.2 with ⟨_,h0⟩ | ⟨g',cap',cur,h0,_,_,h1,_,_⟩
      · omega
      · injection h0 with _ _ h4
        omega
    clear hg2 hR1' hB2 hR2 hB1
    go_wp2
    go_ret
    obtain ⟨m',d1,d2,d3⟩:=HD.out
    exact ⟨_,m',rfl,HB.out,d1,d2,d3⟩
end Go.Proofs.YtlpdjfimefjmcaaGreatDoor
namespace Go.Proofs.YtlpdjfimefjmcaaGreatDoor
open Go Go.RowKit Go.Proofs.Mm
theorem und_des:Tryz.prog.underlying 23=some (.slice 37):=by kernel_rfl
theorem und_las:Tryz.prog.underlying 40=some (.slice 29):=by kernel_rfl
theorem infoDz:∃ i,Tryz.prog.info? 37=some i∧i.zero=some (.agg #[.string ⟨#[]⟩,.int .u64 0])∧i.size=2∧i.bytes=24:=infoOf (by kernel_rfl)
theorem infoLz:∃ i,Tryz.prog.info? 29=some i∧i.zero=some (.int .u64 0)∧i.size=1∧i.bytes=8:=infoOf (by kernel_rfl)
theorem one_De {l:List DeZ} {cs:List Value} (h:Enc (fun c s=>c=deZ s∧s.label<u64B) cs l):∀ u ∈ cs,u.oneCell'=true:=by
  induction l generalizing cs with
  | nil=>obtain rfl:cs=[]:=h;intro u hu;cases hu
  | cons x l ih =>
    obtain ⟨c,r,rfl,⟨rfl,_⟩,h2⟩:=h
    intro u hu
    rcases List.mem_append.1 hu with hu | hu
    · simp only [deZ,List.mem_cons,List.not_mem_nil,or_false] at hu
      rcases hu with rfl | rfl <;> rfl
    · exact ih h2 u hu
set_option maxRecDepth 100000 in
set_option maxHeartbeats 2000000 in
theorem lentDecls_any {w:World} {v:Value} {l:List DeZ} (h:DesR false (wC w) v l) {m:Mem} (hm:Has w m) :
    Calls Tryz.prog 20 #[v] w fun e w'=>∃ v' m',e=.returned v'∧Below w.heap.size w w'∧m.More w m'∧Has w' m'∧DesR true (mC m') v' l:=by
  obtain ⟨q,c,cs,rfl,_,hr,he,hb,hmax,hqn,hlc⟩:=h
  obtain ⟨n,hn⟩:∃ n,l.length=n:=⟨_,rfl⟩
  obtain ⟨hcl,_⟩:=encZ_at de_lenZ he
  have hon:=one_De he
  have HE:=Lib.hid he
  have HN:=Lib.hid hn
  have HM:=Lib.hid hm
  rw [hn] at hb hcl hlc ⊢
  clear he hn hm
  obtain ⟨i2,h2,h3,h4,h5⟩:=infoDz
  have hnil:=World.ownsRow_nil w w.heap.size 37 2
  have HF:=Lib.hid (show ∀ k,w.heap.size≤k→m k=none from fun k hk=>HM.out.lt hk)
  have hone:∀ u ∈ mkD true,u.oneCell'=true:=by intro u hu;simp only [mkD,if_true,List.mem_cons,List.not_mem_nil,or_false] at hu;(rcases hu with rfl | rfl <;> rfl)
  rcases q with _ | ad
  · obtain rfl:c=0:=hqn rfl
    obtain rfl:n=0:=by omega
    have hc0:cs=[]:=List.eq_nil_of_length_eq_zero (by simpa using hcl)
    subst hc0
    have hR1:=hnil.alloc (.cells (mkD true).toArray 37)
    have hnew:=row_new w (mkD true) 37
    go_enter Tryz.func20,Tryz.ntmps20
    go_wp2_with (first | (at_builtin;refine wpList_append_own_none rfl _ _ 23 rfl w.heap.size 37 i2 2 und_des h2 _ 0 [] rfl hnil rfl ?_) | (at_builtin;refine wpList_append_own _ rfl _ _ 23 rfl w.heap.size 37 i2 _ 2 24 und_des h2 h3 h4 h5 rfl (by decide) _ 0 [] rfl hR1 ⟨w.heap.size,0,none⟩ 1 1 (mkD true) rfl rfl hnew hone (by unfold maxLen;omega) (by omega) (by simp) ?_))
    intro v2 w2 hR2 hg2 _
    obtain ⟨q2,c2,rfl⟩:=own_shape hR2
    have hB2:Below w.heap.size w w2:=grown_below ((Below.refl _ w).alloc (Nat.le_refl _) _) (by simp) hg2 (fun j hj=>(hR1.lt j hj).1)
    have HD:=Lib.hid (lent_done (w:=w) (bs:=24) (R:=fun _=>(fun c s=>c=deZ s∧s.label<u64B)) (has_grown HM.out hB2) (fun k hk=>HF.out k (hR2.lt k hk).1) (by simpa using hR2) HN.out HE.out (fun _ _ _ _ _ h=>h) (by omega))
    have HB:=Lib.hid hB2
    have hcap:1≤c2:=by
      rcases hR2.2 with ⟨_,h0⟩ | ⟨g',cap',cur,h0,_,_,h1,_,_⟩
      · omega
      · injection h0 with _ _ h4
        omega
    clear hg2 hR1 hnil hB2 hR2
    go_wp2
    go_ret
    obtain ⟨m',d1,d2,d3⟩:=HD.out
    exact ⟨_,m',rfl,HB.out,d1,d2,d3⟩
  · have hcl2:∀ j u,cs[j]?=some u→w.cell? (ad.add j)=some u:=by
      rcases hr with hr | ⟨g,o,hq,hr⟩
      · have:=(List.append_eq_nil_iff.1 hr).1
        subst this
        intro j u hu
        simp at hu
      · injection hq with hq
        subst hq
        exact enc_cells HE.out (fun j u hu=>hr j u (by rw [List.getElem?_append_left ((List.getElem?_eq_some_iff.1 hu).1)];exact hu))
    clear hr
    go_enter Tryz.func20,Tryz.ntmps20
    go_wp2_with (at_builtin;refine wpList_append_own _ rfl _ _ 23 rfl w.heap.size 37 i2 _ 2 24 und_des h2 h3 h4 h5 rfl (by decide) _ 0 [] rfl hnil ad n c cs rfl hcl hcl2 hon (by unfold maxLen;omega) (by omega) (Nat.le_refl _) ?_)
    intro v1 w1 hR1 hg1 _
    obtain ⟨q1,c1,rfl⟩:=own_shape hR1
    have hB1:Below w.heap.size w w1:=grown_below (Below.refl _ w) (Nat.le_refl _) hg1 (fun j hj=>by cases hj)
    have hw1:=hB1.size
    have hR1':=hR1.alloc (.cells (mkD true).toArray 37)
    have hnew:=row_new w1 (mkD true) 37
    try simp only [Nat.zero_add,List.nil_append] at hR1 hR1'
    clear hg1 hnil hcl2 hon hR1
    go_wp2_with (at_builtin;refine wpList_append_own _ rfl _ _ 23 rfl w.heap.size 37 i2 _ 2 24 und_des h2 h3 h4 h5 rfl (by decide) _ n cs rfl hR1' ⟨w1.heap.size,0,none⟩ 1 1 (mkD true) rfl rfl hnew hone (by unfold maxLen;omega) (by omega) (by simp <;> omega) ?_)
    intro v2 w2 hR2 hg2 _
    obtain ⟨q2,c2,rfl⟩:=own_shape hR2
    have hB2:Below w.heap.size w w2:=grown_below (hB1.alloc hw1 _) (by simp;omega) hg2 (fun j hj=>(hR1'.lt j hj).1)
    have HD:=Lib.hid (lent_done (w:=w) (bs:=24) (R:=fun _=>(fun c s=>c=deZ s∧s.label<u64B)) (has_grown HM.out hB2) (fun k hk=>HF.out k (hR2.lt k hk).1) hR2 HN.out HE.out (fun _ _ _ _ _ h=>h) (by omega))
    have HB:=Lib.hid hB2
    have hcap:n+1≤c2:=by
      rcases hR2.2 with ⟨_,h0⟩ | ⟨g',cap',cur,h0,_,_,h1,_,_⟩
      · omega
      · injection h0 with _ _ h4
        omega
    clear hg2 hR1' hB2 hR2 hB1
    go_wp2
    go_ret
    obtain ⟨m',d1,d2,d3⟩:=HD.out
    exact ⟨_,m',rfl,HB.out,d1,d2,d3⟩
theorem one_La {l:List Nat} {cs:List Value} (h:Enc (fun c s=>c=laZ s∧s<u64B) cs l):∀ u ∈ cs,u.oneCell'=true:=by
  induction l generalizing cs with
  | nil=>obtain rfl:cs=[]:=h;intro u hu;cases hu
  | cons x l ih =>
    obtain ⟨c,r,rfl,⟨rfl,_⟩,h2⟩:=h
    intro u hu
    rcases List.mem_append.1 hu with hu | hu
    · simp only [laZ,List.mem_cons,List.not_mem_nil,or_false] at hu
      (subst hu;rfl)
    · exact ih h2 u hu
set_option maxRecDepth 100000 in
set_option maxHeartbeats 2000000 in
theorem lentLabels_any {w:World} {v:Value} {l:List Nat} (h:LasR false (wC w) v l) {m:Mem} (hm:Has w m) :
    Calls Tryz.prog 21 #[v] w fun e w'=>∃ v' m',e=.returned v'∧Below w.heap.size w w'∧m.More w m'∧Has w' m'∧LasR true (mC m') v' l:=by
  obtain ⟨q,c,cs,rfl,_,hr,he,hb,hmax,hqn,hlc⟩:=h
  obtain ⟨n,hn⟩:∃ n,l.length=n:=⟨_,rfl⟩
  obtain ⟨hcl,_⟩:=encZ_at la_lenZ he
  have hon:=one_La he
  have HE:=Lib.hid he
  have HN:=Lib.hid hn
  have HM:=Lib.hid hm
  rw [hn] at hb hcl hlc ⊢
  clear he hn hm
  obtain ⟨i2,h2,h3,h4,h5⟩:=infoLz
  have hnil:=World.ownsRow_nil w w.heap.size 29 1
  have HF:=Lib.hid (show ∀ k,w.heap.size≤k→m k=none from fun k hk=>HM.out.lt hk)
  have hone:∀ u ∈ mkL true,u.oneCell'=true:=by intro u hu;simp only [mkL,if_true,List.mem_cons,List.not_mem_nil,or_false] at hu;(subst hu;rfl)
  rcases q with _ | ad
  · obtain rfl:c=0:=hqn rfl
    obtain rfl:n=0:=by omega
    have hc0:cs=[]:=List.eq_nil_of_length_eq_zero (by simpa using hcl)
    subst hc0
    have hR1:=hnil.alloc (.cells (mkL true).toArray 29)
    have hnew:=row_new w (mkL true) 29
    go_enter Tryz.func21,Tryz.ntmps21
    go_wp2_with (first | (at_builtin;refine wpList_append_own_none rfl _ _ 40 rfl w.heap.size 29 i2 1 und_las h2 _ 0 [] rfl hnil rfl ?_) | (at_builtin;refine wpList_append_own _ rfl _ _ 40 rfl w.heap.size 29 i2 _ 1 8 und_las h2 h3 h4 h5 rfl (by decide) _ 0 [] rfl hR1 ⟨w.heap.size,0,none⟩ 1 1 (mkL true) rfl rfl hnew hone (by unfold maxLen;omega) (by omega) (by simp) ?_))
    intro v2 w2 hR2 hg2 _
    obtain ⟨q2,c2,rfl⟩:=own_shape hR2
    have hB2:Below w.heap.size w w2:=grown_below ((Below.refl _ w).alloc (Nat.le_refl _) _) (by simp) hg2 (fun j hj=>(hR1.lt j hj).1)
    have HD:=Lib.hid (lent_done (w:=w) (bs:=8) (R:=fun _=>(fun c s=>c=laZ s∧s<u64B)) (has_grown HM.out hB2) (fun k hk=>HF.out k (hR2.lt k hk).1) (by simpa using hR2) HN.out HE.out (fun _ _ _ _ _ h=>h) (by omega))
    have HB:=Lib.hid hB2
    have hcap:1≤c2:=by
      rcases hR2.2 with ⟨_,h0⟩ | ⟨g',cap',cur,h0,_,_,h1,_,_⟩
      · omega
      · injection h0 with _ _ h4
        omega
    clear hg2 hR1 hnil hB2 hR2
    go_wp2
    go_ret
    obtain ⟨m',d1,d2,d3⟩:=HD.out
    exact ⟨_,m',rfl,HB.out,d1,d2,d3⟩
  · have hcl2:∀ j u,cs[j]?=some u→w.cell? (ad.add j)=some u:=by
      rcases hr with hr | ⟨g,o,hq,hr⟩
      · have:=(List.append_eq_nil_iff.1 hr).1
        subst this
        intro j u hu
        simp at hu
      · injection hq with hq
        subst hq
        exact enc_cells HE.out (fun j u hu=>hr j u (by rw [List.getElem?_append_left ((List.getElem?_eq_some_iff.1 hu).1)];exact hu))
    clear hr
    go_enter Tryz.func21,Tryz.ntmps21
    go_wp2_with (at_builtin;refine wpList_append_own _ rfl _ _ 40 rfl w.heap.size 29 i2 _ 1 8 und_las h2 h3 h4 h5 rfl (by decide) _ 0 [] rfl hnil ad n c cs rfl hcl hcl2 hon (by unfold maxLen;omega) (by omega) (Nat.le_refl _) ?_)
    intro v1 w1 hR1 hg1 _
    obtain ⟨q1,c1,rfl⟩:=own_shape hR1
    have hB1:Below w.heap.size w w1:=grown_below (Below.refl _ w) (Nat.le_refl _) hg1 (fun j hj=>by cases hj)
    have hw1:=hB1.size
    have hR1':=hR1.alloc (.cells (mkL true).toArray 29)
    have hnew:=row_new w1 (mkL true) 29
    try simp only [Nat.zero_add,List.nil_append] at hR1 hR1'
    clear hg1 hnil hcl2 hon hR1
    go_wp2_with (at_builtin;refine wpList_append_own _ rfl _ _ 40 rfl w.heap.size 29 i2 _ 1 8 und_las h2 h3 h4 h5 rfl (by decide) _ n cs rfl hR1' ⟨w1.heap.size,0,none⟩ 1 1 (mkL true) rfl rfl hnew hone (by unfold maxLen;omega) (by omega) (by simp <;> omega) ?_)
    intro v2 w2 hR2 hg2 _
    obtain ⟨q2,c2,rfl⟩:=own_shape hR2
    have hB2:Below w.heap.size w w2:=grown_below (hB1.alloc hw1 _) (by simp;omega) hg2 (fun j hj=>(hR1'.lt j hj).1)
    have HD:=Lib.hid (lent_done (w:=w) (bs:=8) (R:=fun _=>(fun c s=>c=laZ s∧s<u64B)) (has_grown HM.out hB2) (fun k hk=>HF.out k (hR2.lt k hk).1) hR2 HN.out HE.out (fun _ _ _ _ _ h=>h) (by omega))
    have HB:=Lib.hid hB2
    have hcap:n+1≤c2:=by
      rcases hR2.2 with ⟨_,h0⟩ | ⟨g',cap',cur,h0,_,_,h1,_,_⟩
      · omega
      · injection h0 with _ _ h4
        omega
    clear hg2 hR1' hB2 hR2 hB1
    go_wp2
    go_ret
    obtain ⟨m',d1,d2,d3⟩:=HD.out
    exact ⟨_,m',rfl,HB.out,d1,d2,d3⟩
end Go.Proofs.YtlpdjfimefjmcaaGreatDoor
