/- Plain facts on words: what a text's words are, one by one from the left on; a word by itself, or with a blank behind it, is the same word. (No seat's own names: to be renamed to the seat that needs it.) A text's bytes as numbers. Sources that are handed in, of whatever names, labels and statements,  -/
import Derived.WalkKit
import Derived.Test.YtlpdjfimefjmcaaGreatDoorProg
import Derived.Test.YtlpdjfimefjmcaaGreatDoorFlLevelsPR2
import Derived.Lib.Strings
import Derived.Lib.Hide
namespace Go.Proofs.YtlpdjfimefjmcaaGreatDoor
def letterB (c:Nat):Bool:=(97≤c && c≤122) || c == 95
def digitB (c:Nat):Bool:=48≤c && c≤57
def blankB (c:Nat):Bool:=c == 9 || c == 10 || c == 13 || c == 32
def nameB (c:Nat):Bool:=letterB c || digitB c
def keysL:List (List Nat):=[[112,114,105,110,99,105,112,97,108],[103,108,111,98,97,108],[97,114,114,97,121],[99,104,97,110,110,101,108],[102,117,110,99],[118,97,114],[105,102],[101,108,115,101],[119,104,105,108,101],[115,101,110,100],[114,101,116,117,114,110]]
def mark1:List Nat:=[123,125,40,41,91,93,44,59,61,60,43,45,42,47,37,38,124,94,33,126]
def mark2:List (List Nat):=[[61,61],[33,61],[60,61],[60,60],[62,62]]
def wordL:List Nat→Nat × Nat
  | []=>(0,0)
  | c :: l =>
    if letterB c then
      let n:=((c :: l).takeWhile nameB).length
      (n,if (c :: l).take n ∈ keysL then 2 else 1)
    else if digitB c then (((c :: l).takeWhile digitB).length,3)
    else if (c :: l).take 2 ∈ mark2 then (2,4)
    else if c ∈ mark1 then (1,4)
    else (0,0)
theorem wordL_le (l:List Nat):(wordL l).1≤l.length:=by
  cases l with
  | nil=>simp [wordL]
  | cons c l =>
    rw [wordL]
    split
    · exact (List.takeWhile_sublist _).length_le
    · split
      · exact (List.takeWhile_sublist _).length_le
      · split
        · rename_i h
          have:((c :: l).take 2).length=2:=by
            have:∀ m ∈ mark2,m.length=2:=by decide
            exact this _ h
          rw [List.length_take] at this
          show 2≤_
          omega
        · split
          · simp
          · simp
theorem takeWhile_stop {p:Nat→Bool}:∀ (t r:List Nat),(∀ x ∈ t,p x=true)→(∀ c,r.head?=some c→p c=false)→(t++r).takeWhile p=t
  | [],r,_,hr=>by
    cases r with
    | nil=>rfl
    | cons c r=>simp [hr c rfl]
  | x :: t,r,ht,hr=>by
    rw [List.cons_append,List.takeWhile_cons,if_pos (ht x (List.mem_cons_self ..)),takeWhile_stop t r (fun y hy=>ht y (List.mem_cons_of_mem _ hy)) hr]
theorem mem_takeWhile {p:Nat→Bool}:∀ (l:List Nat) (x:Nat),x ∈ l.takeWhile p→p x=true
  | [],x,h=>absurd h (by simp)
  | c :: l,x,h=>by
    rw [List.takeWhile_cons] at h
    split at h
    · rename_i hc
      rcases List.mem_cons.1 h with rfl | h
      · exact hc
      · exact mem_takeWhile l x h
    · simp at h
theorem takeWhile_is_take {p:Nat→Bool}:∀ l:List Nat,l.take (l.takeWhile p).length=l.takeWhile p
  | []=>rfl
  | c :: l=>by
    rw [List.takeWhile_cons]
    split
    · rw [List.length_cons,List.take_succ_cons,takeWhile_is_take l]
    · rfl
theorem wordL_again (s:List Nat) (h:(wordL s).1 ≠ 0) (r:List Nat) (hr:r=[] ∨ ∃ r',r=32 :: r'):wordL (s.take (wordL s).1++r)=wordL s:=by
  cases s with
  | nil=>exact absurd rfl h
  | cons c l =>
    have hb:∀ x,r.head?=some x→nameB x=false∧digitB x=false:=by
      intro x hx
      rcases hr with rfl | ⟨r',rfl⟩
      · simp at hx
      · obtain rfl:32=x:=by simpa using hx
        decide
    by_cases hl:letterB c=true
    · have hw:wordL (c :: l)=(((c :: l).takeWhile nameB).length,if (c :: l).take ((c :: l).takeWhile nameB).length ∈ keysL then 2 else 1):=by
        rw [wordL,if_pos hl]
      rw [hw]
      simp only
      rw [takeWhile_is_take]
      have hn:nameB c=true:=by unfold nameB;rw [hl];rfl
      have hc:(c :: l).takeWhile nameB=c :: l.takeWhile nameB:=by rw [List.takeWhile_cons,if_pos hn]
      have hst:((c :: l).takeWhile nameB++r).takeWhile nameB=(c :: l).takeWhile nameB:=takeWhile_stop _ _ (fun x hx=>mem_takeWhile _ x hx) (fun x hx=>(hb x hx).1)
      rw [hc] at hst ⊢
      rw [List.cons_append] at hst ⊢
      rw [wordL,if_pos hl]
      simp only
      rw [hst,← List.cons_append,List.take_left]
    · by_cases hd:digitB c=true
      · have hw:wordL (c :: l)=(((c :: l).takeWhile digitB).length,3):=by rw [wordL,if_neg hl,if_pos hd]
        rw [hw]
        simp only
        rw [takeWhile_is_take]
        have hc:(c :: l).takeWhile digitB=c :: l.takeWhile digitB:=by rw [List.takeWhile_cons,if_pos hd]
        have hst:((c :: l).takeWhile digitB++r).takeWhile digitB=(c :: l).takeWhile digitB:=takeWhile_stop _ _ (fun x hx=>mem_takeWhile _ x hx) (fun x hx=>(hb x hx).2)
        rw [hc] at hst ⊢
        rw [List.cons_append] at hst ⊢
        rw [wordL,if_neg hl,if_pos hd,hst]
      · by_cases h2:(c :: l).take 2 ∈ mark2
        · have hw:wordL (c :: l)=(2,4):=by rw [wordL,if_neg hl,if_neg hd,if_pos h2]
          rw [hw]
          simp only
          obtain ⟨d,l',rfl⟩:∃ d l',l=d :: l':=by
            cases l with
            | nil=>exact absurd h2 (by simp [mark2])
            | cons d l'=>exact ⟨d,l',rfl⟩
          show wordL (c :: d :: r)=(2,4)
          rw [wordL,if_neg hl,if_neg hd,if_pos (by exact h2)]
        · by_cases h1:c ∈ mark1
          · have hw:wordL (c :: l)=(1,4):=by rw [wordL,if_neg hl,if_neg hd,if_neg h2,if_pos h1]
            rw [hw]
            show wordL (c :: r)=(1,4)
            rw [wordL,if_neg hl,if_neg hd,if_neg ?_,if_pos h1]
            rcases hr with rfl | ⟨r',rfl⟩
            · simp [mark2]
            · simp [mark2]
          · exact absurd (by rw [wordL,if_neg hl,if_neg hd,if_neg h2,if_neg h1]) h
end Go.Proofs.YtlpdjfimefjmcaaGreatDoor
namespace Go.Proofs.YtlpdjfimefjmcaaGreatDoor
open Go
def bl (s:ByteArray):List Nat:=s.data.toList.map UInt8.toNat
theorem bl_length (s:ByteArray):(bl s).length=s.size:=by simp [bl]
theorem bl_get (s:ByteArray) (i:Nat) (h:i<s.size):(bl s)[i]?=some (s[i]).toNat:=by
  unfold bl
  rw [List.getElem?_map,Array.getElem?_toList,Array.getElem?_eq_getElem (by simpa using h)]
  rfl
theorem bl_inj {s t:ByteArray} (h:bl s=bl t):s=t:=by
  unfold bl at h
  have:=(List.map_inj_right (fun a b e=>UInt8.toNat_inj.1 e)).1 h
  exact ByteArray.ext (Array.toList_inj.1 this)
end Go.Proofs.YtlpdjfimefjmcaaGreatDoor
namespace Go.Proofs.YtlpdjfimefjmcaaGreatDoor
open Go Go.RowKit Go.Proofs.Mm
structure DeZ where
  name:ByteArray
  label:Nat
structure ArZ where
  name:ByteArray
  len:Int
  label:Nat
structure FnZ where
  name:ByteArray
  level:Nat
  params:List DeZ
  results:List Nat
  vars:List DeZ
  body:List StZ
structure SoZ where
  principals:List ByteArray
  globals:List DeZ
  arrays:List ArZ
  channels:List DeZ
  funcs:List FnZ
instance:Inhabited DeZ:=⟨⟨⟨#[]⟩,0⟩⟩
instance:Inhabited ArZ:=⟨⟨⟨#[]⟩,0,0⟩⟩
instance:Inhabited FnZ:=⟨⟨⟨#[]⟩,0,[],[],[],[]⟩⟩
instance:Inhabited SoZ:=⟨⟨[],[],[],[],[]⟩⟩
def deZ (d:DeZ):List Value:=[.string d.name,.int .u64 (d.label:Nat)]
def laZ (l:Nat):List Value:=[.int .u64 (l:Nat)]
def arZv (a:ArZ):List Value:=[.string a.name,.int .i64 a.len,.int .u64 (a.label:Nat)]
def mkD (lt:Bool):List Value:=if lt then [.string ⟨#[109,97,114,107]⟩,.int .u64 0] else []
def mkL (lt:Bool):List Value:=if lt then [.int .u64 7171] else []
def mkA (lt:Bool):List Value:=if lt then [.string ⟨#[109,97,114,107]⟩,.int .i64 0,.int .u64 0] else []
def mkF (lt:Bool):List Value:=if lt then [.string ⟨#[109,97,114,107]⟩,.int .u64 0,.slice none 0 0,.slice none 0 0,.slice none 0 0,.slice none 0 0] else []
def u64B:Nat:=18446744073709551616
def DesR (lt:Bool) (C:Cl) (v:Value) (l:List DeZ):Prop:=SlX (mkD lt) 24 C (fun c d=>c=deZ d∧d.label<u64B) v l
def LasR (lt:Bool) (C:Cl) (v:Value) (l:List Nat):Prop:=SlX (mkL lt) 8 C (fun c x=>c=laZ x∧x<u64B) v l
def ArsR (lt:Bool) (C:Cl) (v:Value) (l:List ArZ):Prop:=SlX (mkA lt) 32 C (fun c a=>c=arZv a∧a.label<u64B) v l
def FnR1 (lt:Bool) (C:Cl) (c:List Value) (f:FnZ):Prop :=
  ∃ vp vr vv vb,c=[.string f.name,.int .u64 (f.level:Nat),vp,vr,vv,vb]∧f.level<u64B∧DesR lt C vp f.params∧LasR lt C vr f.results∧DesR lt C vv f.vars∧BdR lt C vb f.body
def FnsR (lt:Bool) (C:Cl) (v:Value) (l:List FnZ):Prop:=SlX (mkF lt) 120 C (FnR1 lt C) v l
def SrcR (lt:Bool) (C:Cl) (v:Value) (s:SoZ):Prop :=
  ∃ v1 v2 v3 v4 v5,v=.agg #[v1,v2,v3,v4,v5]∧StrR lt C v1 s.principals∧DesR lt C v2 s.globals∧ArsR lt C v3 s.arrays∧DesR lt C v4 s.channels∧FnsR lt C v5 s.funcs
theorem de_lenZ (c:List Value) (d:DeZ) (h:c=deZ d∧d.label<u64B):c.length=2:=by rw [h.1];rfl
theorem la_lenZ (c:List Value) (d:Nat) (h:c=laZ d∧d<u64B):c.length=1:=by rw [h.1];rfl
theorem ar_lenZ (c:List Value) (d:ArZ) (h:c=arZv d∧d.label<u64B):c.length=3:=by rw [h.1];rfl
theorem str_lenZ (c:List Value) (d:ByteArray) (h:c=[Value.string d]):c.length=1:=by rw [h];rfl
theorem tm_lenZ (c:List Value) (d:TmZ) (h:c=tmZ d):c.length=3:=by rw [h];rfl
section
variable {lt:Bool} {C D:Cl}
theorem ex_lenZ (c:List Value) (d:List TmZ) (h:ExR1 lt C c d):c.length=1:=by obtain ⟨u,rfl,_⟩:=h;rfl
theorem st_lenZ (c:List Value) (d:StZ) (h:StR1 lt C c d):c.length=4:=by obtain ⟨vt,ve,rfl,_⟩:=h;rfl
theorem fn_lenZ (c:List Value) (d:FnZ) (h:FnR1 lt C c d):c.length=6:=by obtain ⟨a,b,e,f,rfl,_⟩:=h;rfl
theorem DesR.le {v:Value} {l:List DeZ} (h:DesR lt C v l) (hc:CLe C D):DesR lt D v l:=SlX.mono h hc fun _ _ e=>e
theorem LasR.le {v:Value} {l:List Nat} (h:LasR lt C v l) (hc:CLe C D):LasR lt D v l:=SlX.mono h hc fun _ _ e=>e
theorem ArsR.le {v:Value} {l:List ArZ} (h:ArsR lt C v l) (hc:CLe C D):ArsR lt D v l:=SlX.mono h hc fun _ _ e=>e
theorem FnR1.le {c:List Value} {f:FnZ} (h:FnR1 lt C c f) (hc:CLe C D):FnR1 lt D c f:=by
  obtain ⟨vp,vr,vv,vb,e,h0,h1,h2,h3,h4⟩:=h
  exact ⟨vp,vr,vv,vb,e,h0,h1.le hc,h2.le hc,h3.le hc,h4.le hc⟩
theorem FnsR.le {v:Value} {l:List FnZ} (h:FnsR lt C v l) (hc:CLe C D):FnsR lt D v l:=SlX.mono h hc fun _ _ e=>e.le hc
theorem SrcR.le {v:Value} {s:SoZ} (h:SrcR lt C v s) (hc:CLe C D):SrcR lt D v s:=by
  obtain ⟨v1,v2,v3,v4,v5,e,h1,h2,h3,h4,h5⟩:=h
  exact ⟨v1,v2,v3,v4,v5,e,h1.le hc,h2.le hc,h3.le hc,h4.le hc,h5.le hc⟩
end
def StrAt (C:Cl) (q:Option Addr) (l:List ByteArray):Prop:=∀ j (hj:j<l.length),∃ g o,q=some ⟨g,o,none⟩∧C ⟨g,o+j,none⟩=some (.string l[j])
def DeAt (C:Cl) (q:Option Addr) (l:List DeZ):Prop:=∀ j (hj:j<l.length),∃ g o,q=some ⟨g,o,none⟩∧C ⟨g,o+j * 2,none⟩=some (.string l[j].name)∧C ⟨g,o+j * 2+1,none⟩=some (.int .u64 (l[j].label:Nat))∧l[j].label<u64B
def LaAt (C:Cl) (q:Option Addr) (l:List Nat):Prop:=∀ j (hj:j<l.length),∃ g o,q=some ⟨g,o,none⟩∧C ⟨g,o+j,none⟩=some (.int .u64 (l[j]:Nat))∧l[j]<u64B
def ArAt (C:Cl) (q:Option Addr) (l:List ArZ):Prop:=∀ j (hj:j<l.length),∃ g o,q=some ⟨g,o,none⟩∧C ⟨g,o+j * 3,none⟩=some (.string l[j].name)∧C ⟨g,o+j * 3+1,none⟩=some (.int .i64 l[j].len)∧C ⟨g,o+j * 3+2,none⟩=some (.int .u64 (l[j].label:Nat))∧l[j].label<u64B
def TmAt (C:Cl) (q:Option Addr) (l:List TmZ):Prop:=∀ j (hj:j<l.length),∃ g o,q=some ⟨g,o,none⟩∧C ⟨g,o+j * 3,none⟩=some (.int .i64 l[j].kind)∧C ⟨g,o+j * 3+1,none⟩=some (.int .i64 l[j].value)∧C ⟨g,o+j * 3+2,none⟩=some (.string l[j].name)
def ExAt (lt:Bool) (C:Cl) (q:Option Addr) (l:List (List TmZ)):Prop:=∀ j (hj:j<l.length),∃ g o qe ce,q=some ⟨g,o,none⟩∧C ⟨g,o+j,none⟩=some (.slice qe l[j].length ce)∧TmsR lt C (.slice qe l[j].length ce) l[j]
def StAt (lt:Bool) (C:Cl) (q:Option Addr) (l:List StZ):Prop:=∀ j (hj:j<l.length),∃ g o qt ct qe ce,q=some ⟨g,o,none⟩∧C ⟨g,o+j * 4,none⟩=some (.int .i64 l[j].kind)∧C ⟨g,o+j * 4+1,none⟩=some (.string l[j].name)∧C ⟨g,o+j * 4+2,none⟩=some (.slice qt l[j].targets.length ct)∧C ⟨g,o+j * 4+3,none⟩=some (.slice qe l[j].exprs.length ce)∧StrR lt C (.slice qt l[j].targets.length ct) l[j].targets∧ExsR lt C (.slice qe l[j].exprs.length ce) l[j].exprs
def FnLies (lt:Bool) (C:Cl) (f:FnZ) (qp:Option Addr) (cp:Nat) (qr:Option Addr) (cr:Nat) (qv:Option Addr) (cv:Nat) (qb:Option Addr) (cb:Nat):Prop :=
  f.level<u64B∧DesR lt C (.slice qp f.params.length cp) f.params∧LasR lt C (.slice qr f.results.length cr) f.results∧DesR lt C (.slice qv f.vars.length cv) f.vars∧BdR lt C (.slice qb f.body.length cb) f.body
def FnAt (lt:Bool) (C:Cl) (q:Option Addr) (l:List FnZ):Prop:=∀ j (hj:j<l.length),∃ g o qp cp qr cr qv cv qb cb,q=some ⟨g,o,none⟩∧C ⟨g,o+j * 6,none⟩=some (.string l[j].name)∧C ⟨g,o+j * 6+1,none⟩=some (.int .u64 (l[j].level:Nat)) ∧
  C ⟨g,o+j * 6+2,none⟩=some (.slice qp l[j].params.length cp)∧C ⟨g,o+j * 6+3,none⟩=some (.slice qr l[j].results.length cr)∧C ⟨g,o+j * 6+4,none⟩=some (.slice qv l[j].vars.length cv)∧C ⟨g,o+j * 6+5,none⟩=some (.slice qb l[j].body.length cb)∧FnLies lt C l[j] qp cp qr cr qv cv qb cb
theorem slx_shape {α:Type} {mk:List Value} {bs:Nat} {C:Cl} {R:List Value→α→Prop} {v:Value} {l:List α} (h:SlX mk bs C R v l):∃ q c,v=.slice q l.length c:=let ⟨q,c,_,e,_⟩:=h;⟨q,c,e⟩
theorem slx_len {α:Type} {mk:List Value} {bs:Nat} {C:Cl} {R:List Value→α→Prop} {v:Value} {l:List α} (h:SlX mk bs C R v l):l.length * bs≤140737488351232:=by
  obtain ⟨_,_,_,_,_,_,_,h5,_⟩:=h;exact h5
section
variable {lt:Bool} {C:Cl} {q:Option Addr} {n c:Nat}
theorem slx_at {α:Type} {mk:List Value} {bs:Nat} {R:List Value→α→Prop} {l:List α} {size:Nat} (h:SlX mk (bs+1) C R (.slice q n c) l) (hs:0<size) (hR:∀ c x,R c x→c.length=size) :
    ∀ j (hj:j<l.length),∃ g o e,q=some ⟨g,o,none⟩∧R e l[j]∧∀ r u,r<size→e[r]?=some u→C ⟨g,o+j * size+r,none⟩=some u:=by
  intro j hj
  obtain ⟨q',c',e1,_,_,_,ha,_⟩:=h.at hs hR
  obtain ⟨rfl,_,_⟩:q=q'∧n=l.length∧c=c':=by injection e1 with a b c;exact ⟨a,b,c⟩
  obtain ⟨g,o,e,h1,h2,h3⟩:=ha j hj
  exact ⟨g,o,e,h1,h2,fun r u hr hu=>by rw [Nat.add_assoc];exact h3 r u hr hu⟩
theorem StrR.cells {l:List ByteArray} (h:StrR lt C (.slice q n c) l):StrAt C q l:=by
  intro j hj
  obtain ⟨g,o,e,h1,rfl,h3⟩:=slx_at (size:=1) h (by decide) str_lenZ j hj
  refine ⟨g,o,h1,?_⟩
  have:=h3 0 _ (by decide) rfl
  simpa using this
theorem DesR.cells {l:List DeZ} (h:DesR lt C (.slice q n c) l):DeAt C q l:=by
  intro j hj
  obtain ⟨g,o,e,h1,⟨rfl,hb⟩,h3⟩:=slx_at (size:=2) h (by decide) de_lenZ j hj
  exact ⟨g,o,h1,h3 0 _ (by decide) rfl,h3 1 _ (by decide) rfl,hb⟩
theorem LasR.cells {l:List Nat} (h:LasR lt C (.slice q n c) l):LaAt C q l:=by
  intro j hj
  obtain ⟨g,o,e,h1,⟨rfl,hb⟩,h3⟩:=slx_at (size:=1) h (by decide) la_lenZ j hj
  refine ⟨g,o,h1,?_,hb⟩
  have:=h3 0 _ (by decide) rfl
  simpa using this
theorem ArsR.cells {l:List ArZ} (h:ArsR lt C (.slice q n c) l):ArAt C q l:=by
  intro j hj
  obtain ⟨g,o,e,h1,⟨rfl,hb⟩,h3⟩:=slx_at (size:=3) h (by decide) ar_lenZ j hj
  exact ⟨g,o,h1,h3 0 _ (by decide) rfl,h3 1 _ (by decide) rfl,h3 2 _ (by decide) rfl,hb⟩
theorem TmsR.cells {l:List TmZ} (h:TmsR lt C (.slice q n c) l):TmAt C q l:=by
  intro j hj
  obtain ⟨g,o,e,h1,rfl,h3⟩:=slx_at (size:=3) h (by decide) tm_lenZ j hj
  exact ⟨g,o,h1,h3 0 _ (by decide) rfl,h3 1 _ (by decide) rfl,h3 2 _ (by decide) rfl⟩
theorem ExsR.cells {l:List (List TmZ)} (h:ExsR lt C (.slice q n c) l):ExAt lt C q l:=by
  intro j hj
  obtain ⟨g,o,e,h1,⟨u,rfl,hu⟩,h3⟩:=slx_at (size:=1) h (by decide) ex_lenZ j hj
  obtain ⟨qe,ce,rfl⟩:=slx_shape hu
  refine ⟨g,o,qe,ce,h1,?_,hu⟩
  have:=h3 0 _ (by decide) rfl
  simpa using this
theorem BdR.cells {l:List StZ} (h:BdR lt C (.slice q n c) l):StAt lt C q l:=by
  intro j hj
  obtain ⟨g,o,e,h1,⟨vt,ve,rfl,ht,he⟩,h3⟩:=slx_at (size:=4) h (by decide) st_lenZ j hj
  obtain ⟨qt,ct,rfl⟩:=slx_shape ht
  obtain ⟨qe,ce,rfl⟩:=slx_shape he
  exact ⟨g,o,qt,ct,qe,ce,h1,h3 0 _ (by decide) rfl,h3 1 _ (by decide) rfl,h3 2 _ (by decide) rfl,h3 3 _ (by decide) rfl,ht,he⟩
theorem FnsR.cells {l:List FnZ} (h:FnsR lt C (.slice q n c) l):FnAt lt C q l:=by
  intro j hj
  obtain ⟨g,o,e,h1,⟨vp,vr,vv,vb,rfl,hl,hp,hr,hv,hb⟩,h3⟩:=slx_at (size:=6) h (by decide) fn_lenZ j hj
  obtain ⟨qp,cp,rfl⟩:=slx_shape hp
  obtain ⟨qr,cr,rfl⟩:=slx_shape hr
  obtain ⟨qv,cv,rfl⟩:=slx_shape hv
  obtain ⟨qb,cb,rfl⟩:=slx_shape hb
  exact ⟨g,o,qp,cp,qr,cr,qv,cv,qb,cb,h1,h3 0 _ (by decide) rfl,h3 1 _ (by decide) rfl,h3 2 _ (by decide) rfl,h3 3 _ (by decide) rfl,h3 4 _ (by decide) rfl,h3 5 _ (by decide) rfl,hl,hp,hr,hv,hb⟩
end
end Go.Proofs.YtlpdjfimefjmcaaGreatDoor
namespace Go.Proofs.YtlpdjfimefjmcaaGreatDoor
open Go
def nmB (c:Nat):Bool:=(decide (97≤c) && decide (c≤122)) || c == 95 || (decide (48≤c) && decide (c≤57))
def dgB (c:Nat):Bool:=decide (48≤c) && decide (c≤57)
def nameZ (s:ByteArray):Bool :=
  !(bl s).isEmpty && decide ((bl s).length≤32) && !((bl s).head?.any dgB) && !decide (bl s ∈ keysL) && (bl s).all nmB
def idxZ (l:List ByteArray) (n:ByteArray):Option Nat:=l.findIdx? fun x=>decide (x=n)
def locZ (s:SoZ) (f:Int) (n:ByteArray):Option Nat :=
  if f<0 then none else
  match s.funcs[f.toNat]? with
  | none=>none
  | some d=>match idxZ (d.params.map DeZ.name) n with
    | some k=>some k
    | none=>(idxZ (d.vars.map DeZ.name) n).map (·+d.params.length)
def fndZ (s:SoZ) (f:Int) (n:ByteArray):Option (Nat × Nat) :=
  match locZ s f n with
  | some k=>some (1,k)
  | none=>match idxZ (s.globals.map DeZ.name) n with
    | some k=>some (2,k)
    | none=>match idxZ (s.arrays.map ArZ.name) n with
      | some k=>some (3,k)
      | none=>match idxZ (s.channels.map DeZ.name) n with
        | some k=>some (4,k)
        | none=>(idxZ (s.funcs.map FnZ.name) n).map fun k=>(5,k)
def goodT (t:TmZ):Bool :=
  if t.kind=1 then decide (0≤t.value) && t.name.toList.isEmpty
  else if t.kind=2 ∨ t.kind=3 then decide (t.value=0) && nameZ t.name
  else if t.kind=4 then decide (15≤t.value∧t.value≤17) && t.name.toList.isEmpty
  else if t.kind=5 then decide (1≤t.value∧t.value≤14) && t.name.toList.isEmpty
  else false
def tkT (t:TmZ):Nat:=if t.kind=5 then 2 else if t.kind=3 ∨ t.kind=4 then 1 else 0
def whF:List TmZ→Nat→Bool
  | [],n=>n == 1
  | t :: l,n=>goodT t && decide (tkT t≤n) && whF l (n - tkT t+1)
def formZ (k:Int):Option (Bool × Option Nat × Option Nat) :=
  if k=1 then some (false,some 1,some 1) else if k=2 then some (true,some 0,some 2) else if k=3 then some (true,some 0,some 1)
  else if k=4 then some (true,none,none) else if k=5 ∨ k=7 then some (false,some 0,some 1) else if k=6 ∨ k=8 then some (false,some 0,some 0)
  else if k=9 then some (false,some 0,none) else none
def isC (n:Nat) (w:Option Nat):Bool:=match w with
  | none=>true
  | some m=>n == m
def fitZ (x:StZ):Bool:=match formZ x.kind with
  | none=>false
  | some (nd,tg,ex)=>(if nd then nameZ x.name else x.name.toList.isEmpty) && isC x.targets.length tg && isC x.exprs.length ex && x.targets.all nameZ && x.exprs.all fun e=>whF e 0
def fst0:List Nat→Nat
  | []=>0
  | e :: l=>if e=0 then fst0 l else e
def grpF (most:Nat) (e:Nat→Nat) (base:Nat):Nat→Nat→Option (Nat × Nat)
  | 0,_=>none
  | n+1,k=>if k=most then some (base+k,74) else if e k=0 then grpF most e base n (k+1) else some (base+k,e k)
def unl (b:Bool) (e:Nat):Nat:=if b then 0 else e
def lblE (s:SoZ) (l:Nat):Nat:=unl (l >>> s.principals.length == 0) 10
def newE (n:ByteArray) (taken:Bool):Nat:=if nameZ n then unl (!taken) 70 else 1
def decE (s:SoZ) (n:ByteArray) (here:Nat × Nat):Nat:=newE n (fndZ s (-1) n != some here)
def prE (s:SoZ) (k:Nat):Nat:=match s.principals[k]? with
  | some n=>newE n (idxZ s.principals n != some k)
  | none=>0
def glE (s:SoZ) (kd:Nat) (l:List DeZ) (k:Nat):Nat:=match l[k]? with
  | some d=>fst0 [decE s d.name (kd,k),lblE s d.label]
  | none=>0
def arE (s:SoZ) (k:Nat):Nat:=match s.arrays[k]? with
  | some d=>fst0 [decE s d.name (3,k),unl (decide (1≤d.len∧d.len≤256)) 1,lblE s d.label]
  | none=>0
def fuE (s:SoZ) (k:Nat):Nat:=match s.funcs[k]? with
  | some d=>decE s d.name (5,k)
  | none=>0
def orO {α:Type} (a b:Option α):Option α:=match a with
  | some x=>some x
  | none=>b
def declsZE (s:SoZ):Option (Nat × Nat) :=
  let n1:=s.principals.length
  let n2:=n1+s.globals.length
  let n3:=n2+s.arrays.length
  let n4:=n3+s.channels.length
  orO (grpF 64 (prE s) 0 n1 0) (orO (grpF 32 (glE s 2 s.globals) n1 s.globals.length 0) (orO (grpF 16 (arE s) n2 s.arrays.length 0) (orO (grpF 16 (glE s 4 s.channels) n3 s.channels.length 0) (grpF 32 (fuE s) n4 s.funcs.length 0))))
def locE (s:SoZ) (f:Nat):List DeZ→Nat→Nat
  | [],_=>0
  | d :: l,k=>fst0 [newE d.name ((fndZ s (-1) d.name).isSome || locZ s f d.name != some k),lblE s d.label,locE s f l (k+1)]
def deepZ:List StZ→Int→Int→Int
  | [],_,m=>m
  | x :: l,d,m=>if x.kind=5 ∨ x.kind=7 then deepZ l (d+1) (max m (d+1)) else if x.kind=8 then deepZ l (d - 1) m else deepZ l d m
def onceZ (b:List StZ):Bool:=match b.findIdx? fun x=>x.kind == 9 with
  | some k=>k+1 == b.length
  | none=>false
def usesT (l:List TmZ):List (ByteArray × Nat):=l.flatMap fun t=>if t.kind=2 then [(t.name,2)] else if t.kind=3 then [(t.name,3)] else []
def usesZ (x:StZ):List (ByteArray × Nat) :=
  x.targets.map (fun n=>(n,2))++((if x.kind=2 then [(x.name,3)] else if x.kind=3 then [(x.name,4)] else if x.kind=4 then [(x.name,5)] else [])++x.exprs.flatMap usesT)
def useE (s:SoZ) (f:Nat) (u:ByteArray × Nat):Nat:=match fndZ s f u.1 with
  | none=>71
  | some (k,_)=>unl (k == u.2 || (u.2 == 2 && k == 1)) 72
def usesE (s:SoZ) (f:Nat) (x:StZ):Nat:=fst0 ((usesZ x).map (useE s f))
def cntE (s:SoZ) (f:Nat) (x:StZ):Nat :=
  if x.kind=4 then
    match s.funcs[((fndZ s f x.name).getD (0,0)).2]? with
    | some d=>unl (x.exprs.length == d.params.length && (x.targets.length == 0 || x.targets.length == d.results.length)) 73
    | none=>0
  else if x.kind=9 then
    match s.funcs[f]? with
    | some d=>unl (x.exprs.length == d.results.length) 73
    | none=>0
  else 0
def stE (s:SoZ) (f:Nat) (x:StZ):Nat:=fst0 [unl (fitZ x) 50,unl (decide (x.exprs.length≤8) && x.exprs.all fun l=>decide (l.length≤48)) 74,usesE s f x,cntE s f x]
def bodyF (s:SoZ) (f:Nat):List StZ→Nat→Option (Int × Nat)
  | [],_=>none
  | x :: l,i=>if stE s f x=0 then bodyF s f l (i+1) else some (i,stE s f x)
def lbsE (s:SoZ):List Nat→Nat
  | []=>0
  | l :: r=>fst0 [lblE s l,lbsE s r]
section
variable (nest:List Int→Bool)
def fnE (s:SoZ) (f:Nat) (d:FnZ):Option (Int × Nat) :=
  let e:=fst0 [unl (decide (d.params.length≤8) && decide (d.results.length≤4) && decide (d.vars.length≤32) && decide (d.body.length≤256)) 74,lblE s d.level,locE s f (d.params++d.vars) 0,lbsE s d.results,unl (nest (d.body.map StZ.kind) && decide (deepZ d.body 0 0≤12) && onceZ d.body) 50]
  if e=0 then bodyF s f d.body 0 else some (-1,e)
def fnsF (s:SoZ):List FnZ→Nat→Option (Nat × Int × Nat)
  | [],_=>none
  | d :: l,f=>match fnE nest s f d with
    | some (a,e)=>some (f,a,e)
    | none=>fnsF s l (f+1)
def chkZ (s:SoZ):Int × Int × Int:=match declsZE s with
  | some (a,e)=>(e,-1,a)
  | none=>match fnsF nest s s.funcs 0 with
    | some (f,a,e)=>(e,f,a)
    | none=>(0,0,0)
end
end Go.Proofs.YtlpdjfimefjmcaaGreatDoor
namespace Go.Proofs.YtlpdjfimefjmcaaGreatDoor
open Go Go.RowKit Go.Proofs.Mm
def RetB (v:Value) (W:World) (e:Ending) (w':World):Prop:=e=.returned v∧Below W.heap.size W w'
theorem RetB.of_eq {v:Value} {W:World} {e:Ending} {w':World} (h:e=.returned v∧W=w'):RetB v W e w':=by
  obtain ⟨rfl,rfl⟩:=h;exact ⟨rfl,Below.refl _ _⟩
theorem bl_al {W w:World} (h:Below W.heap.size W w) (o:Obj):Below W.heap.size W (w.alloc o):=h.alloc h.size o
theorem bl_dr {W w:World} (h:Below W.heap.size W w):Below W.heap.size W w.drew:=h.drew
theorem bl_dN {W w:World} (h:Below W.heap.size W w) (n:Nat):Below W.heap.size W (w.drewN n):=Go.below_drewN h n
theorem bl_tr {W w w':World} (h:Below W.heap.size W w) (k:Below w.heap.size w w'):Below W.heap.size W w':=h.trans (k.mono h.size)
set_option maxRecDepth 100000 in
theorem isDigit_p (c:Nat) (W:World):Calls Tryz.prog 152 #[.int .u8 (c:Int)] W fun e w'=>e=.returned (.bool (dgB c))∧W=w':=by
  unfold dgB
  by_cases h1:48≤c
  · by_cases h2:c≤57
    · have e1:(48:Int)≤(c:Int):=by omega
      have e2:(c:Int)≤57:=by omega
      rw [decide_eq_true h1,decide_eq_true h2]
      go_enter Tryz.func152,Tryz.ntmps152
      go_wp2
      go_ret
      exact ⟨rfl,rfl⟩
    · have e1:(48:Int)≤(c:Int):=by omega
      have e2:¬ (c:Int)≤57:=by omega
      rw [decide_eq_true h1,decide_eq_false h2]
      go_enter Tryz.func152,Tryz.ntmps152
      go_wp2
      go_ret
      exact ⟨rfl,rfl⟩
  · have e1:¬ (48:Int)≤(c:Int):=by omega
    rw [decide_eq_false h1,Bool.false_and]
    go_enter Tryz.func152,Tryz.ntmps152
    go_wp2
    go_ret
    exact ⟨rfl,rfl⟩
theorem ret_bool {a b:Bool} (h:a=b):Ending.returned (.bool a)=.returned (.bool b):=by rw [h]
theorem isOfName_p (c:Nat) (W:World):Calls Tryz.prog 154 #[.int .u8 (c:Int)] W fun e w'=>e=.returned (.bool (nmB c))∧W=w':=by
  have hc:(97≤c∧c≤122) ∨ c=95 ∨ (c<97∧¬ c=95) ∨ 122<c:=by omega
  have h1:=isDigit_p c W
  rcases hc with ⟨h2,h3⟩ | rfl | ⟨h2,h3⟩ | h2
  all_goals
    go_enter Tryz.func154,Tryz.ntmps154
    go_wp2_with (go_at_call 152;refine h1.mono ?_;rintro e w' ⟨rfl,rfl⟩)
    all_goals
      go_ret
      exact ⟨ret_bool (by
        unfold nmB
        try unfold dgB
        first | decide | (rw [Bool.eq_iff_iff];simp;omega)),rfl⟩
theorem ne_lit {s:ByteArray} {L:List (List Nat)} {u:List UInt8} (h:bl s ∉ L) (hu:u.map UInt8.toNat ∈ L):(s.toList == u)=false:=by
  rw [beq_eq_false_iff_ne]
  intro e
  rw [Lib.toList_data] at e
  exact h (by unfold bl;rw [e];exact hu)
set_option maxRecDepth 100000 in
set_option maxHeartbeats 1000000 in
theorem isKeyword_no (s:ByteArray) (h:bl s ∉ keysL) (w:World):Calls Tryz.prog 153 #[.string s] w fun e w'=>e=.returned (.bool false)∧w=w':=by
  have e0:(s.toList == [112,114,105,110,99,105,112,97,108])=false:=ne_lit h (by decide)
  have e1:(s.toList == [103,108,111,98,97,108])=false:=ne_lit h (by decide)
  have e2:(s.toList == [97,114,114,97,121])=false:=ne_lit h (by decide)
  have e3:(s.toList == [99,104,97,110,110,101,108])=false:=ne_lit h (by decide)
  have e4:(s.toList == [102,117,110,99])=false:=ne_lit h (by decide)
  have e5:(s.toList == [118,97,114])=false:=ne_lit h (by decide)
  have e6:(s.toList == [105,102])=false:=ne_lit h (by decide)
  have e7:(s.toList == [101,108,115,101])=false:=ne_lit h (by decide)
  have e8:(s.toList == [119,104,105,108,101])=false:=ne_lit h (by decide)
  have e9:(s.toList == [115,101,110,100])=false:=ne_lit h (by decide)
  have e10:(s.toList == [114,101,116,117,114,110])=false:=ne_lit h (by decide)
  clear h
  go_enter Tryz.func153,Tryz.ntmps153
  go_wp2
  go_ret
  exact ⟨rfl,rfl⟩
set_option maxRecDepth 100000 in
set_option maxHeartbeats 1000000 in
theorem isKeyword_yes (s:ByteArray) (h:bl s ∈ keysL) (w:World):Calls Tryz.prog 153 #[.string s] w fun e w'=>e=.returned (.bool true)∧w=w':=by
  simp only [keysL,List.mem_cons,List.not_mem_nil,or_false] at h
  rcases h with h | h | h | h | h | h | h | h | h | h | h
  · obtain rfl:s=⟨#[112,114,105,110,99,105,112,97,108]⟩:=bl_inj (h.trans (by decide))
    clear h
    go_enter Tryz.func153,Tryz.ntmps153
    go_wp2
    go_ret
    exact ⟨rfl,rfl⟩
  · obtain rfl:s=⟨#[103,108,111,98,97,108]⟩:=bl_inj (h.trans (by decide))
    clear h
    go_enter Tryz.func153,Tryz.ntmps153
    go_wp2
    go_ret
    exact ⟨rfl,rfl⟩
  · obtain rfl:s=⟨#[97,114,114,97,121]⟩:=bl_inj (h.trans (by decide))
    clear h
    go_enter Tryz.func153,Tryz.ntmps153
    go_wp2
    go_ret
    exact ⟨rfl,rfl⟩
  · obtain rfl:s=⟨#[99,104,97,110,110,101,108]⟩:=bl_inj (h.trans (by decide))
    clear h
    go_enter Tryz.func153,Tryz.ntmps153
    go_wp2
    go_ret
    exact ⟨rfl,rfl⟩
  · obtain rfl:s=⟨#[102,117,110,99]⟩:=bl_inj (h.trans (by decide))
    clear h
    go_enter Tryz.func153,Tryz.ntmps153
    go_wp2
    go_ret
    exact ⟨rfl,rfl⟩
  · obtain rfl:s=⟨#[118,97,114]⟩:=bl_inj (h.trans (by decide))
    clear h
    go_enter Tryz.func153,Tryz.ntmps153
    go_wp2
    go_ret
    exact ⟨rfl,rfl⟩
  · obtain rfl:s=⟨#[105,102]⟩:=bl_inj (h.trans (by decide))
    clear h
    go_enter Tryz.func153,Tryz.ntmps153
    go_wp2
    go_ret
    exact ⟨rfl,rfl⟩
  · obtain rfl:s=⟨#[101,108,115,101]⟩:=bl_inj (h.trans (by decide))
    clear h
    go_enter Tryz.func153,Tryz.ntmps153
    go_wp2
    go_ret
    exact ⟨rfl,rfl⟩
  · obtain rfl:s=⟨#[119,104,105,108,101]⟩:=bl_inj (h.trans (by decide))
    clear h
    go_enter Tryz.func153,Tryz.ntmps153
    go_wp2
    go_ret
    exact ⟨rfl,rfl⟩
  · obtain rfl:s=⟨#[115,101,110,100]⟩:=bl_inj (h.trans (by decide))
    clear h
    go_enter Tryz.func153,Tryz.ntmps153
    go_wp2
    go_ret
    exact ⟨rfl,rfl⟩
  · obtain rfl:s=⟨#[114,101,116,117,114,110]⟩:=bl_inj (h.trans (by decide))
    clear h
    go_enter Tryz.func153,Tryz.ntmps153
    go_wp2
    go_ret
    exact ⟨rfl,rfl⟩
theorem keyword_p (s:ByteArray) (W:World):Calls Tryz.prog 153 #[.string s] W fun e w'=>e=.returned (.bool (decide (bl s ∈ keysL)))∧W=w':=by
  by_cases h:bl s ∈ keysL
  · rw [decide_eq_true h];exact isKeyword_yes s h W
  · rw [decide_eq_false h];exact isKeyword_no s h W
theorem all_step {p:Nat→Bool} (l:List Nat) (k:Nat) (h:∀ x ∈ l.take k,p x=true) (c:Nat) (hc:l[k]?=some c) (hp:p c=true):∀ x ∈ l.take (k+1),p x=true:=by
  rw [List.take_add_one,hc]
  intro x hx
  rcases List.mem_append.1 hx with h1 | h1
  · exact h x h1
  · obtain rfl:x=c:=by simpa using h1
    exact hp
theorem name_head (s:ByteArray) (h:0<s.size):(bl s).head?=some (s[0]).toNat:=by
  rw [List.head?_eq_getElem?];exact bl_get s 0 h
theorem nameZ_long {s:ByteArray} (h:32<s.size):nameZ s=false:=by
  unfold nameZ
  rw [bl_length,decide_eq_false (by omega)];simp
theorem nameZ_mid {s:ByteArray} (h0:0<s.size) (h1:s.size≤32):nameZ s=(!dgB (s[0]).toNat && !decide (bl s ∈ keysL) && (bl s).all nmB):=by
  unfold nameZ
  rw [bl_length,decide_eq_true h1,name_head s h0]
  have:(bl s).isEmpty=false:=by
    rw [List.isEmpty_eq_false_iff];intro e;have:=bl_length s;rw [e] at this;simp at this;omega
  rw [this];simp
set_option maxRecDepth 100000 in
set_option maxHeartbeats 1000000 in
theorem name_p (s:ByteArray) (W:World):Calls Tryz.prog 121 #[.string s] W fun e w'=>e=.returned (.bool (nameZ s))∧W=w':=by
  by_cases h0:s.size=0
  · obtain rfl:s=⟨#[]⟩:=bl_inj (by
      have:=bl_length s;rw [h0] at this;rw [List.length_eq_zero_iff.1 this];rfl)
    go_enter Tryz.func121,Tryz.ntmps121
    go_wp2
    go_ret
    exact ⟨rfl,rfl⟩
  have he:s.toList.isEmpty=false:=by
    rw [Lib.toList_data]
    rw [List.isEmpty_eq_false_iff];intro e
    have:=bl_length s
    unfold bl at this
    rw [e] at this
    simp at this
    omega
  by_cases h1:32<s.size
  · have HZ:=Lib.hid (nameZ_long h1)
    have h1':(32:Int)<(s.size:Int):=by omega
    go_enter Tryz.func121,Tryz.ntmps121
    go_wp2
    go_ret
    exact ⟨ret_bool HZ.out.symm,rfl⟩
  have h0':0<s.size:=by omega
  have HZ:=Lib.hid (nameZ_mid h0' (by omega))
  have h1':¬ (32:Int)<(s.size:Int):=by omega
  have HD:=Lib.hid (isDigit_p (s[0]).toNat W)
  have HK:=Lib.hid (keyword_p s W)
  cases hd:dgB (s[0]).toNat
  · cases hk:decide (bl s ∈ keysL)
    · have HD2:=Lib.hid (hd ▸ HD.out)
      have HK2:=Lib.hid (hk ▸ HK.out)
      have HZ2:=Lib.hid (show nameZ s=(bl s).all nmB by rw [HZ.out,hd,hk];rfl)
      clear hd hk
      have HL:=Lib.hid (bl_length s)
      go_enter Tryz.func121,Tryz.ntmps121
      go_wp2_with (first | (go_at_call 152;refine HD2.out.mono ?_;rintro e w' ⟨rfl,rfl⟩) | (go_at_call 153;refine HK2.out.mono ?_;rintro e w' ⟨rfl,rfl⟩))
      go_loop [17] (fun i=>∃ k:Nat,k≤s.size∧i=.int .i64 k∧Hid (∀ x ∈ (bl s).take k,nmB x=true)) (fun i=>s.size - (intOf i).toNat)
      case atStart=>exact ⟨0,Nat.zero_le _,rfl,Lib.hid (by simp)⟩
      case round =>
        obtain ⟨k,hk,rfl,H⟩:=hrel
        by_cases hlt:k<s.size
        · have hb:=Lib.hid (bl_get s k hlt)
          cases hp:nmB (s[k]).toNat
          · have hcall:=hp ▸ isOfName_p (s[k]).toNat W
            have HP:=Lib.hid hp
            clear hp
            go_wp2_with (go_at_call 154;refine hcall.mono ?_;rintro e w' ⟨rfl,rfl⟩)
            go_ret
            exact ⟨ret_bool (by
              rw [HZ2.out]
              symm
              rw [List.all_eq_false]
              exact ⟨_,List.mem_of_getElem? hb.out,by rw [HP.out];decide⟩),rfl⟩
          · have hcall:=hp ▸ isOfName_p (s[k]).toNat W
            have HP:=Lib.hid hp
            clear hp
            go_wp2_with (go_at_call 154;refine hcall.mono ?_;rintro e w' ⟨rfl,rfl⟩)
            go_round
            case rel=>exact ⟨k+1,by omega,by go_num,Lib.hid (all_step _ k H.out _ hb.out HP.out)⟩
            case measure=>simp [intOf];omega
        · have HK:=Lib.hid (show (bl s).all nmB=true by
            rw [List.all_eq_true]
            intro x hx
            exact H.out x (by rw [List.take_of_length_le (by rw [bl_length];omega)];exact hx))
          go_wp2
          go_ret
          exact ⟨ret_bool (by rw [HZ2.out,HK.out]),rfl⟩
    · have HD2:=Lib.hid (hd ▸ HD.out)
      have HK2:=Lib.hid (hk ▸ HK.out)
      have HZ2:=Lib.hid (show nameZ s=false by rw [HZ.out,hk];simp)
      clear hd hk
      go_enter Tryz.func121,Tryz.ntmps121
      go_wp2_with (first | (go_at_call 152;refine HD2.out.mono ?_;rintro e w' ⟨rfl,rfl⟩) | (go_at_call 153;refine HK2.out.mono ?_;rintro e w' ⟨rfl,rfl⟩))
      go_ret
      exact ⟨ret_bool HZ2.out.symm,rfl⟩
  · have HD2:=Lib.hid (hd ▸ HD.out)
    have HZ2:=Lib.hid (show nameZ s=false by rw [HZ.out,hd];simp)
    clear hd
    go_enter Tryz.func121,Tryz.ntmps121
    go_wp2_with (first | (go_at_call 152;refine HD2.out.mono ?_;rintro e w' ⟨rfl,rfl⟩))
    go_ret
    exact ⟨ret_bool HZ2.out.symm,rfl⟩
end Go.Proofs.YtlpdjfimefjmcaaGreatDoor
namespace Go.Proofs.YtlpdjfimefjmcaaGreatDoor
open Go Go.RowKit Go.Proofs.Mm
def ixI (x:Option Nat):Int:=match x with
  | some k=>(k:Int)
  | none=>-1
theorem ix_hit {α:Type} {l:List α} {p:α→Bool} {k:Nat} (hk:k<l.length) (h:∀ j (hj:j<l.length),j<k→p l[j]=false) (hp:p l[k]=true):l.findIdx? p=some k:=by
  rw [List.findIdx?_eq_some_iff_getElem]
  exact ⟨hk,hp,fun j hj=>by rw [h j (by omega) hj];decide⟩
theorem ix_no {α:Type} {l:List α} {p:α→Bool} (h:∀ j (hj:j<l.length),j<l.length→p l[j]=false):l.findIdx? p=none:=by
  rw [List.findIdx?_eq_none_iff]
  intro x hx
  obtain ⟨j,hj,rfl⟩:=List.getElem_of_mem hx
  exact h j hj hj
theorem ix_step {α:Type} {l:List α} {p:α→Bool} {k:Nat} (hk:k<l.length) (h:∀ j (hj:j<l.length),j<k→p l[j]=false) (hp:p l[k]=false):∀ j (hj:j<l.length),j<k+1→p l[j]=false:=by
  intro j hj h2
  rcases Nat.lt_or_ge j k with h3 | h3
  · exact h j hj h3
  · obtain rfl:j=k:=by omega
    exact hp
def Ent (K:Nat):Prop:=∀ args w,(callFunc K args).run Tryz.prog w=.ok (.enter K args) w
end Go.Proofs.YtlpdjfimefjmcaaGreatDoor
namespace Go.Proofs.YtlpdjfimefjmcaaGreatDoor
open Go Go.RowKit Go.Proofs.Mm
section
variable {C:Cl} {W:World} {q:Option Addr}
set_option maxRecDepth 100000 in
set_option maxHeartbeats 2000000 in
theorem ixSr_p {l:List ByteArray} {c:Nat} (hl:l.length≤9223372036854775807) (hrow:StrAt C q l) (hC:CLe C (wC W)) {K:Nat} {ca:Array Value} (ek:Ent K) (p:ByteArray→Bool)
    (hcl:∀ k (hk:k<l.length) W',Below W.heap.size W W'→Calls Tryz.prog K (#[]++#[.string l[k]]++ca) W' (RetB (.bool (p l[k])) W')) :
    Calls Tryz.prog 176 #[.slice q l.length c,.func (.func K) #[] ca] W (RetB (.int .i64 (ixI (l.findIdx? p))) W):=by
  have HA:=Lib.hid hrow
  have HCC:=Lib.hid hC
  have HCL:=Lib.hid hcl
  obtain ⟨n,hn⟩:∃ n,l.length=n:=⟨_,rfl⟩
  have HN:=Lib.hid hn
  unfold Ent at ek
  rw [hn] at hl ⊢
  clear hrow hC hn hcl
  go_enter Tryz.func176,Tryz.ntmps176
  go_wp2
  go_loopw [8] (fun i wr=>∃ k:Nat,k≤n∧i=.int .i64 k∧Hid (Below W.heap.size W wr)∧Hid (∀ j (hj:j<l.length),j<k→p l[j]=false)) (fun i _=>n - (intOf i).toNat)
  case atStart=>exact ⟨0,Nat.zero_le _,rfl,Lib.hid (Below.refl _ _),Lib.hid (fun j hj h=>absurd h (by omega))⟩
  case round =>
    obtain ⟨k,hk,rfl,HBW,HT⟩:=hrel
    by_cases hlt:k<n
    · have hk1:k<l.length:=by rw [HN.out];exact hlt
      have HK:=Lib.hid hk1
      obtain ⟨g,o,rfl,a0⟩:=HA.out k hk1
      have e0:wr.cell? ⟨g,o+k,none⟩=some (.string l[k]):=below_cle HBW.out _ _ (HCC.out _ _ a0)
      have HCALL:=Lib.hid (HCL.out k hk1 wr HBW.out)
      clear a0
      generalize hpx:p l[k]=b at HCALL
      have HS0:=Lib.hid (fun h:b=false=>ix_step HK.out HT.out (hpx.trans h))
      have HS1:=Lib.hid (fun h:b=true=>ix_hit HK.out HT.out (hpx.trans h))
      clear hpx
      generalize l[k]=z0 at *
      clear hk1
      have hki:(k:Int)<(n:Int):=by omega
      go_wp2_with fail
      refine HCALL.out.mono ?_
      rintro e w2 ⟨rfl,hbel⟩
      have HB3:=Lib.hid (bl_tr HBW.out hbel)
      clear hbel HCALL
      cases b
      · have HT2:=Lib.hid (HS0.out rfl)
        go_wp2_with fail
        exact ⟨⟨k+1,by omega,by go_num,HB3,HT2⟩,by simp [intOf];omega⟩
      · have HT2:=Lib.hid (HS1.out rfl)
        go_wp2_with fail
        go_ret
        exact ⟨by rw [HT2.out];rfl,HB3.out⟩
    · have HT2:=Lib.hid (ix_no (fun j hj _=>HT.out j hj (by have:=HN.out;omega)))
      go_wp2
      go_ret
      exact ⟨by rw [HT2.out];rfl,HBW.out⟩
end
end Go.Proofs.YtlpdjfimefjmcaaGreatDoor
namespace Go.Proofs.YtlpdjfimefjmcaaGreatDoor
open Go Go.RowKit Go.Proofs.Mm
section
variable {C:Cl} {W:World} {q:Option Addr} {lt:Bool}
set_option maxRecDepth 100000 in
set_option maxHeartbeats 2000000 in
theorem ixEx_p {l:List (List TmZ)} {c:Nat} (hl:l.length≤9223372036854775807) (hrow:ExAt lt C q l) (hC:CLe C (wC W)) {K:Nat} {ca:Array Value} (ek:Ent K) (p:(List TmZ)→Bool)
    (hcl:∀ k (hk:k<l.length) (qe:Option Addr) (ce:Nat) (_:TmsR lt C (.slice qe l[k].length ce) l[k]) W',Below W.heap.size W W'→Calls Tryz.prog K (#[]++#[.slice qe l[k].length ce]++ca) W' (RetB (.bool (p l[k])) W')) :
    Calls Tryz.prog 161 #[.slice q l.length c,.func (.func K) #[] ca] W (RetB (.int .i64 (ixI (l.findIdx? p))) W):=by
  have HA:=Lib.hid hrow
  have HCC:=Lib.hid hC
  have HCL:=Lib.hid hcl
  obtain ⟨n,hn⟩:∃ n,l.length=n:=⟨_,rfl⟩
  have HN:=Lib.hid hn
  unfold Ent at ek
  rw [hn] at hl ⊢
  clear hrow hC hn hcl
  go_enter Tryz.func161,Tryz.ntmps161
  go_wp2
  go_loopw [8] (fun i wr=>∃ k:Nat,k≤n∧i=.int .i64 k∧Hid (Below W.heap.size W wr)∧Hid (∀ j (hj:j<l.length),j<k→p l[j]=false)) (fun i _=>n - (intOf i).toNat)
  case atStart=>exact ⟨0,Nat.zero_le _,rfl,Lib.hid (Below.refl _ _),Lib.hid (fun j hj h=>absurd h (by omega))⟩
  case round =>
    obtain ⟨k,hk,rfl,HBW,HT⟩:=hrel
    by_cases hlt:k<n
    · have hk1:k<l.length:=by rw [HN.out];exact hlt
      have HK:=Lib.hid hk1
      obtain ⟨g,o,qe,ce,rfl,a0⟩:=HA.out k hk1
      have e0:wr.cell? ⟨g,o+k,none⟩=some (.slice qe l[k].length ce):=below_cle HBW.out _ _ (HCC.out _ _ a0.1)
      have HCALL:=Lib.hid (HCL.out k hk1 qe ce a0.2 wr HBW.out)
      clear a0
      generalize hpx:p l[k]=b at HCALL
      have HS0:=Lib.hid (fun h:b=false=>ix_step HK.out HT.out (hpx.trans h))
      have HS1:=Lib.hid (fun h:b=true=>ix_hit HK.out HT.out (hpx.trans h))
      clear hpx
      generalize l[k].length=z0 at *
      clear hk1
      have hki:(k:Int)<(n:Int):=by omega
      go_wp2_with fail
      refine HCALL.out.mono ?_
      rintro e w2 ⟨rfl,hbel⟩
      have HB3:=Lib.hid (bl_tr HBW.out hbel)
      clear hbel HCALL
      cases b
      · have HT2:=Lib.hid (HS0.out rfl)
        go_wp2_with fail
        exact ⟨⟨k+1,by omega,by go_num,HB3,HT2⟩,by simp [intOf];omega⟩
      · have HT2:=Lib.hid (HS1.out rfl)
        go_wp2_with fail
        go_ret
        exact ⟨by rw [HT2.out];rfl,HB3.out⟩
    · have HT2:=Lib.hid (ix_no (fun j hj _=>HT.out j hj (by have:=HN.out;omega)))
      go_wp2
      go_ret
      exact ⟨by rw [HT2.out];rfl,HBW.out⟩
end
end Go.Proofs.YtlpdjfimefjmcaaGreatDoor
namespace Go.Proofs.YtlpdjfimefjmcaaGreatDoor
open Go Go.RowKit Go.Proofs.Mm
section
variable {C:Cl} {W:World} {q:Option Addr}
set_option maxRecDepth 100000 in
set_option maxHeartbeats 2000000 in
theorem ixLa_p {l:List Nat} {c:Nat} (hl:l.length≤9223372036854775807) (hrow:LaAt C q l) (hC:CLe C (wC W)) {K:Nat} {ca:Array Value} (ek:Ent K) (p:Nat→Bool)
    (hcl:∀ k (hk:k<l.length) W',Below W.heap.size W W'→Calls Tryz.prog K (#[]++#[.int .u64 (l[k]:Nat)]++ca) W' (RetB (.bool (p l[k])) W')) :
    Calls Tryz.prog 155 #[.slice q l.length c,.func (.func K) #[] ca] W (RetB (.int .i64 (ixI (l.findIdx? p))) W):=by
  have HA:=Lib.hid hrow
  have HCC:=Lib.hid hC
  have HCL:=Lib.hid hcl
  obtain ⟨n,hn⟩:∃ n,l.length=n:=⟨_,rfl⟩
  have HN:=Lib.hid hn
  unfold Ent at ek
  rw [hn] at hl ⊢
  clear hrow hC hn hcl
  go_enter Tryz.func155,Tryz.ntmps155
  go_wp2
  go_loopw [8] (fun i wr=>∃ k:Nat,k≤n∧i=.int .i64 k∧Hid (Below W.heap.size W wr)∧Hid (∀ j (hj:j<l.length),j<k→p l[j]=false)) (fun i _=>n - (intOf i).toNat)
  case atStart=>exact ⟨0,Nat.zero_le _,rfl,Lib.hid (Below.refl _ _),Lib.hid (fun j hj h=>absurd h (by omega))⟩
  case round =>
    obtain ⟨k,hk,rfl,HBW,HT⟩:=hrel
    by_cases hlt:k<n
    · have hk1:k<l.length:=by rw [HN.out];exact hlt
      have HK:=Lib.hid hk1
      obtain ⟨g,o,rfl,a0⟩:=HA.out k hk1
      have e0:wr.cell? ⟨g,o+k,none⟩=some (.int .u64 (l[k]:Nat)):=below_cle HBW.out _ _ (HCC.out _ _ a0.1)
      have HCALL:=Lib.hid (HCL.out k hk1 wr HBW.out)
      clear a0
      generalize hpx:p l[k]=b at HCALL
      have HS0:=Lib.hid (fun h:b=false=>ix_step HK.out HT.out (hpx.trans h))
      have HS1:=Lib.hid (fun h:b=true=>ix_hit HK.out HT.out (hpx.trans h))
      clear hpx
      generalize l[k]=z0 at *
      clear hk1
      have hki:(k:Int)<(n:Int):=by omega
      go_wp2_with fail
      refine HCALL.out.mono ?_
      rintro e w2 ⟨rfl,hbel⟩
      have HB3:=Lib.hid (bl_tr HBW.out hbel)
      clear hbel HCALL
      cases b
      · have HT2:=Lib.hid (HS0.out rfl)
        go_wp2_with fail
        exact ⟨⟨k+1,by omega,by go_num,HB3,HT2⟩,by simp [intOf];omega⟩
      · have HT2:=Lib.hid (HS1.out rfl)
        go_wp2_with fail
        go_ret
        exact ⟨by rw [HT2.out];rfl,HB3.out⟩
    · have HT2:=Lib.hid (ix_no (fun j hj _=>HT.out j hj (by have:=HN.out;omega)))
      go_wp2
      go_ret
      exact ⟨by rw [HT2.out];rfl,HBW.out⟩
end
end Go.Proofs.YtlpdjfimefjmcaaGreatDoor
namespace Go.Proofs.YtlpdjfimefjmcaaGreatDoor
open Go Go.RowKit Go.Proofs.Mm
section
variable {C:Cl} {W:World} {q:Option Addr}
set_option maxRecDepth 100000 in
set_option maxHeartbeats 2000000 in
theorem ixDe_p {l:List DeZ} {c:Nat} (hl:l.length≤9223372036854775807) (hrow:DeAt C q l) (hC:CLe C (wC W)) {K:Nat} {ca:Array Value} (ek:Ent K) (p:DeZ→Bool)
    (hcl:∀ k (hk:k<l.length) W',Below W.heap.size W W'→Calls Tryz.prog K (#[]++#[.agg #[.string l[k].name,.int .u64 (l[k].label:Nat)]]++ca) W' (RetB (.bool (p l[k])) W')) :
    Calls Tryz.prog 103 #[.slice q l.length c,.func (.func K) #[] ca] W (RetB (.int .i64 (ixI (l.findIdx? p))) W):=by
  have HA:=Lib.hid hrow
  have HCC:=Lib.hid hC
  have HCL:=Lib.hid hcl
  obtain ⟨n,hn⟩:∃ n,l.length=n:=⟨_,rfl⟩
  have HN:=Lib.hid hn
  unfold Ent at ek
  rw [hn] at hl ⊢
  clear hrow hC hn hcl
  go_enter Tryz.func103,Tryz.ntmps103
  go_wp2
  go_loopw [8] (fun i wr=>∃ k:Nat,k≤n∧i=.int .i64 k∧Hid (Below W.heap.size W wr)∧Hid (∀ j (hj:j<l.length),j<k→p l[j]=false)) (fun i _=>n - (intOf i).toNat)
  case atStart=>exact ⟨0,Nat.zero_le _,rfl,Lib.hid (Below.refl _ _),Lib.hid (fun j hj h=>absurd h (by omega))⟩
  case round =>
    obtain ⟨k,hk,rfl,HBW,HT⟩:=hrel
    by_cases hlt:k<n
    · have hk1:k<l.length:=by rw [HN.out];exact hlt
      have HK:=Lib.hid hk1
      obtain ⟨g,o,rfl,a0⟩:=HA.out k hk1
      have e0:wr.cell? ⟨g,o+k * 2,none⟩=some (.string l[k].name):=below_cle HBW.out _ _ (HCC.out _ _ a0.1)
      have e1:wr.cell? ⟨g,o+k * 2+1,none⟩=some (.int .u64 (l[k].label:Nat)):=below_cle HBW.out _ _ (HCC.out _ _ a0.2.1)
      have HCALL:=Lib.hid (HCL.out k hk1 wr HBW.out)
      clear a0
      generalize hpx:p l[k]=b at HCALL
      have HS0:=Lib.hid (fun h:b=false=>ix_step HK.out HT.out (hpx.trans h))
      have HS1:=Lib.hid (fun h:b=true=>ix_hit HK.out HT.out (hpx.trans h))
      clear hpx
      generalize l[k].label=z0 at *
      generalize l[k].name=z1 at *
      clear hk1
      have hki:(k:Int)<(n:Int):=by omega
      go_wp2_with fail
      refine HCALL.out.mono ?_
      rintro e w2 ⟨rfl,hbel⟩
      have HB3:=Lib.hid (bl_tr HBW.out hbel)
      clear hbel HCALL
      cases b
      · have HT2:=Lib.hid (HS0.out rfl)
        go_wp2_with fail
        exact ⟨⟨k+1,by omega,by go_num,HB3,HT2⟩,by simp [intOf];omega⟩
      · have HT2:=Lib.hid (HS1.out rfl)
        go_wp2_with fail
        go_ret
        exact ⟨by rw [HT2.out];rfl,HB3.out⟩
    · have HT2:=Lib.hid (ix_no (fun j hj _=>HT.out j hj (by have:=HN.out;omega)))
      go_wp2
      go_ret
      exact ⟨by rw [HT2.out];rfl,HBW.out⟩
end
end Go.Proofs.YtlpdjfimefjmcaaGreatDoor
namespace Go.Proofs.YtlpdjfimefjmcaaGreatDoor
open Go Go.RowKit Go.Proofs.Mm
section
variable {C:Cl} {W:World} {q:Option Addr}
set_option maxRecDepth 100000 in
set_option maxHeartbeats 2000000 in
theorem ixAr_p {l:List ArZ} {c:Nat} (hl:l.length≤9223372036854775807) (hrow:ArAt C q l) (hC:CLe C (wC W)) {K:Nat} {ca:Array Value} (ek:Ent K) (p:ArZ→Bool)
    (hcl:∀ k (hk:k<l.length) W',Below W.heap.size W W'→Calls Tryz.prog K (#[]++#[.agg #[.string l[k].name,.int .i64 l[k].len,.int .u64 (l[k].label:Nat)]]++ca) W' (RetB (.bool (p l[k])) W')) :
    Calls Tryz.prog 105 #[.slice q l.length c,.func (.func K) #[] ca] W (RetB (.int .i64 (ixI (l.findIdx? p))) W):=by
  have HA:=Lib.hid hrow
  have HCC:=Lib.hid hC
  have HCL:=Lib.hid hcl
  obtain ⟨n,hn⟩:∃ n,l.length=n:=⟨_,rfl⟩
  have HN:=Lib.hid hn
  unfold Ent at ek
  rw [hn] at hl ⊢
  clear hrow hC hn hcl
  go_enter Tryz.func105,Tryz.ntmps105
  go_wp2
  go_loopw [8] (fun i wr=>∃ k:Nat,k≤n∧i=.int .i64 k∧Hid (Below W.heap.size W wr)∧Hid (∀ j (hj:j<l.length),j<k→p l[j]=false)) (fun i _=>n - (intOf i).toNat)
  case atStart=>exact ⟨0,Nat.zero_le _,rfl,Lib.hid (Below.refl _ _),Lib.hid (fun j hj h=>absurd h (by omega))⟩
  case round =>
    obtain ⟨k,hk,rfl,HBW,HT⟩:=hrel
    by_cases hlt:k<n
    · have hk1:k<l.length:=by rw [HN.out];exact hlt
      have HK:=Lib.hid hk1
      obtain ⟨g,o,rfl,a0⟩:=HA.out k hk1
      have e0:wr.cell? ⟨g,o+k * 3,none⟩=some (.string l[k].name):=below_cle HBW.out _ _ (HCC.out _ _ a0.1)
      have e1:wr.cell? ⟨g,o+k * 3+1,none⟩=some (.int .i64 l[k].len):=below_cle HBW.out _ _ (HCC.out _ _ a0.2.1)
      have e2:wr.cell? ⟨g,o+k * 3+2,none⟩=some (.int .u64 (l[k].label:Nat)):=below_cle HBW.out _ _ (HCC.out _ _ a0.2.2.1)
      have HCALL:=Lib.hid (HCL.out k hk1 wr HBW.out)
      clear a0
      generalize hpx:p l[k]=b at HCALL
      have HS0:=Lib.hid (fun h:b=false=>ix_step HK.out HT.out (hpx.trans h))
      have HS1:=Lib.hid (fun h:b=true=>ix_hit HK.out HT.out (hpx.trans h))
      clear hpx
      generalize l[k].label=z0 at *
      generalize l[k].name=z1 at *
      generalize l[k].len=z2 at *
      clear hk1
      have hki:(k:Int)<(n:Int):=by omega
      go_wp2_with fail
      refine HCALL.out.mono ?_
      rintro e w2 ⟨rfl,hbel⟩
      have HB3:=Lib.hid (bl_tr HBW.out hbel)
      clear hbel HCALL
      cases b
      · have HT2:=Lib.hid (HS0.out rfl)
        go_wp2_with fail
        exact ⟨⟨k+1,by omega,by go_num,HB3,HT2⟩,by simp [intOf];omega⟩
      · have HT2:=Lib.hid (HS1.out rfl)
        go_wp2_with fail
        go_ret
        exact ⟨by rw [HT2.out];rfl,HB3.out⟩
    · have HT2:=Lib.hid (ix_no (fun j hj _=>HT.out j hj (by have:=HN.out;omega)))
      go_wp2
      go_ret
      exact ⟨by rw [HT2.out];rfl,HBW.out⟩
end
end Go.Proofs.YtlpdjfimefjmcaaGreatDoor
namespace Go.Proofs.YtlpdjfimefjmcaaGreatDoor
open Go Go.RowKit Go.Proofs.Mm
section
variable {C:Cl} {W:World} {q:Option Addr} {lt:Bool}
set_option maxRecDepth 100000 in
set_option maxHeartbeats 2000000 in
theorem ixFn_p {l:List FnZ} {c:Nat} (hl:l.length≤9223372036854775807) (hrow:FnAt lt C q l) (hC:CLe C (wC W)) {K:Nat} {ca:Array Value} (ek:Ent K) (p:FnZ→Bool)
    (hcl:∀ k (hk:k<l.length) (qp:Option Addr) (cp:Nat) (qr:Option Addr) (cr:Nat) (qv:Option Addr) (cv:Nat) (qb:Option Addr) (cb:Nat) (_:FnLies lt C l[k] qp cp qr cr qv cv qb cb) W',Below W.heap.size W W'→Calls Tryz.prog K (#[]++#[.agg #[.string l[k].name,.int .u64 (l[k].level:Nat),.slice qp l[k].params.length cp,.slice qr l[k].results.length cr,.slice qv l[k].vars.length cv,.slice qb l[k].body.length cb]]++ca) W' (RetB (.bool (p l[k])) W')) :
    Calls Tryz.prog 107 #[.slice q l.length c,.func (.func K) #[] ca] W (RetB (.int .i64 (ixI (l.findIdx? p))) W):=by
  have HA:=Lib.hid hrow
  have HCC:=Lib.hid hC
  have HCL:=Lib.hid hcl
  obtain ⟨n,hn⟩:∃ n,l.length=n:=⟨_,rfl⟩
  have HN:=Lib.hid hn
  unfold Ent at ek
  rw [hn] at hl ⊢
  clear hrow hC hn hcl
  go_enter Tryz.func107,Tryz.ntmps107
  go_wp2
  go_loopw [8] (fun i wr=>∃ k:Nat,k≤n∧i=.int .i64 k∧Hid (Below W.heap.size W wr)∧Hid (∀ j (hj:j<l.length),j<k→p l[j]=false)) (fun i _=>n - (intOf i).toNat)
  case atStart=>exact ⟨0,Nat.zero_le _,rfl,Lib.hid (Below.refl _ _),Lib.hid (fun j hj h=>absurd h (by omega))⟩
  case round =>
    obtain ⟨k,hk,rfl,HBW,HT⟩:=hrel
    by_cases hlt:k<n
    · have hk1:k<l.length:=by rw [HN.out];exact hlt
      have HK:=Lib.hid hk1
      obtain ⟨g,o,qp,cp,qr,cr,qv,cv,qb,cb,rfl,a0⟩:=HA.out k hk1
      have e0:wr.cell? ⟨g,o+k * 6,none⟩=some (.string l[k].name):=below_cle HBW.out _ _ (HCC.out _ _ a0.1)
      have e1:wr.cell? ⟨g,o+k * 6+1,none⟩=some (.int .u64 (l[k].level:Nat)):=below_cle HBW.out _ _ (HCC.out _ _ a0.2.1)
      have e2:wr.cell? ⟨g,o+k * 6+2,none⟩=some (.slice qp l[k].params.length cp):=below_cle HBW.out _ _ (HCC.out _ _ a0.2.2.1)
      have e3:wr.cell? ⟨g,o+k * 6+3,none⟩=some (.slice qr l[k].results.length cr):=below_cle HBW.out _ _ (HCC.out _ _ a0.2.2.2.1)
      have e4:wr.cell? ⟨g,o+k * 6+4,none⟩=some (.slice qv l[k].vars.length cv):=below_cle HBW.out _ _ (HCC.out _ _ a0.2.2.2.2.1)
      have e5:wr.cell? ⟨g,o+k * 6+5,none⟩=some (.slice qb l[k].body.length cb):=below_cle HBW.out _ _ (HCC.out _ _ a0.2.2.2.2.2.1)
      have HCALL:=Lib.hid (HCL.out k hk1 qp cp qr cr qv cv qb cb a0.2.2.2.2.2.2 wr HBW.out)
      clear a0
      generalize hpx:p l[k]=b at HCALL
      have HS0:=Lib.hid (fun h:b=false=>ix_step HK.out HT.out (hpx.trans h))
      have HS1:=Lib.hid (fun h:b=true=>ix_hit HK.out HT.out (hpx.trans h))
      clear hpx
      generalize l[k].results.length=z0 at *
      generalize l[k].params.length=z1 at *
      generalize l[k].vars.length=z2 at *
      generalize l[k].body.length=z3 at *
      generalize l[k].level=z4 at *
      generalize l[k].name=z5 at *
      clear hk1
      have hki:(k:Int)<(n:Int):=by omega
      go_wp2_with fail
      refine HCALL.out.mono ?_
      rintro e w2 ⟨rfl,hbel⟩
      have HB3:=Lib.hid (bl_tr HBW.out hbel)
      clear hbel HCALL
      cases b
      · have HT2:=Lib.hid (HS0.out rfl)
        go_wp2_with fail
        exact ⟨⟨k+1,by omega,by go_num,HB3,HT2⟩,by simp [intOf];omega⟩
      · have HT2:=Lib.hid (HS1.out rfl)
        go_wp2_with fail
        go_ret
        exact ⟨by rw [HT2.out];rfl,HB3.out⟩
    · have HT2:=Lib.hid (ix_no (fun j hj _=>HT.out j hj (by have:=HN.out;omega)))
      go_wp2
      go_ret
      exact ⟨by rw [HT2.out];rfl,HBW.out⟩
end
end Go.Proofs.YtlpdjfimefjmcaaGreatDoor
