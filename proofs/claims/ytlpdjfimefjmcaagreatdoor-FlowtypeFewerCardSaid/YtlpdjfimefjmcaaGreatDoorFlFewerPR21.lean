/- A source whose one body is another row: how it lies. Plain facts on a text's words: all of them, ahead of the first fault; each is good by itself; their texts with blanks between have the same words. (No seat's own names: to be renamed to the seat that needs it.) Contracts of the byte tests of packa -/
import Derived.Test.YtlpdjfimefjmcaaGreatDoorFlFewerPR4
import Derived.Test.YtlpdjfimefjmcaaGreatDoorFlFewerPR19
import Derived.Test.YtlpdjfimefjmcaaGreatDoorFlFewerPR20
import Derived.Test.YtlpdjfimefjmcaaGreatDoorFlFewerPR3
import Derived.Test.YtlpdjfimefjmcaaGreatDoorProg
import Derived.WalkKit
import Derived.Outline
import Derived.Lib.Hide
import Derived.LoopTactic
import Derived.Lib.Strings
import Derived.Lib.ParseIntBCases
namespace Go.Proofs.YtlpdjfimefjmcaaGreatDoor
open Go Go.RowKit Go.Proofs.Mm
section
variable {C D:Cl}
theorem slx_wk {α:Type} {mk:List Value} {bs:Nat} {C:Cl} {R:List Value→α→Prop} {v:Value} {l:List α} (h:SlX mk bs C R v l):SlX [] bs C R v l:=by
  obtain ⟨q,c,cs,h1,_,h3,h4⟩:=h
  exact ⟨q,c,cs,h1,.inl rfl,by rw [List.append_nil];exact h3.left,h4⟩
theorem cle_refl:CLe C C:=fun _ _ e=>e
theorem str_weak {v:Value} {l:List ByteArray} (h:StrR true C v l):StrR false C v l:=slx_wk h
theorem tms_weak {v:Value} {l:List TmZ} (h:TmsR true C v l):TmsR false C v l:=slx_wk h
theorem exs_weak {v:Value} {l:List (List TmZ)} (h:ExsR true C v l):ExsR false C v l:=slx_wk (SlX.mono h cle_refl fun _ _ ⟨u,e,hu⟩=>⟨u,e,tms_weak hu⟩)
theorem st_weak {c:List Value} {x:StZ} (h:StR1 true C c x):StR1 false C c x:=by
  obtain ⟨vt,ve,e,h1,h2⟩:=h
  exact ⟨vt,ve,e,str_weak h1,exs_weak h2⟩
theorem bd_weak {v:Value} {l:List StZ} (h:BdR true C v l):BdR false C v l:=slx_wk (SlX.mono h cle_refl fun _ _ e=>st_weak e)
theorem des_weak {v:Value} {l:List DeZ} (h:DesR true C v l):DesR false C v l:=slx_wk h
theorem las_weak {v:Value} {l:List Nat} (h:LasR true C v l):LasR false C v l:=slx_wk h
theorem ars_weak {v:Value} {l:List ArZ} (h:ArsR true C v l):ArsR false C v l:=slx_wk h
theorem fn_weak {c:List Value} {x:FnZ} (h:FnR1 true C c x):FnR1 false C c x:=by
  obtain ⟨a,b,d,e,h0,h1,h2,h3,h4,h5⟩:=h
  exact ⟨a,b,d,e,h0,h1,des_weak h2,las_weak h3,des_weak h4,bd_weak h5⟩
theorem enc_new {α:Type} {R:List Value→α→Prop} {size g:Nat}:∀ (l:List α) (o:Nat),(∀ j (hj:j<l.length),∃ e:List Value,R e l[j]∧e.length=size∧∀ (r:Nat) (u:Value),e[r]?=some u→D ⟨g,o+j * size+r,none⟩=some u)→∃ cs,Enc R cs l∧∀ (i:Nat) (u:Value),cs[i]?=some u→D ⟨g,o+i,none⟩=some u
  | [],o,_=>⟨[],rfl,fun i u hu=>by simp at hu⟩
  | x :: l,o,h=>by
    obtain ⟨e,h1,h2,h3⟩:=h 0 (by simp)
    obtain ⟨cs,k1,k2⟩:=enc_new (R:=R) (size:=size) (g:=g) l (o+size) (fun j hj=>by
      obtain ⟨e,p1,p2,p3⟩:=h (j+1) (by simpa using hj)
      exact ⟨e,by simpa using p1,p2,fun r u hu=>by
        have:=p3 r u hu
        rw [show o+(j+1) * size+r=o+size+j * size+r by rw [Nat.add_mul];omega] at this
        exact this⟩)
    refine ⟨e++cs,⟨e,cs,rfl,by simpa using h1,k1⟩,fun i u hu=>?_⟩
    by_cases hi:i<e.length
    · rw [List.getElem?_append_left hi] at hu
      have:=h3 i u hu
      rwa [Nat.zero_mul,Nat.add_zero] at this
    · rw [List.getElem?_append_right (by omega)] at hu
      have:=k2 (i - e.length) u hu
      rwa [show o+size+(i - e.length)=o+i by omega] at this
theorem slx_new {α:Type} {R:List Value→α→Prop} {size bs g o c:Nat} {l:List α} (hb:l.length * bs≤140737488351232) (hc:c≤maxLen) (hl:l.length≤c)
    (h:∀ j (hj:j<l.length),∃ e:List Value,R e l[j]∧e.length=size∧∀ (r:Nat) (u:Value),e[r]?=some u→D ⟨g,o+j * size+r,none⟩=some u):SlX [] bs D R (.slice (some ⟨g,o,none⟩) l.length c) l:=by
  obtain ⟨cs,h1,h2⟩:=enc_new l o h
  exact ⟨_,_,cs,rfl,.inl rfl,.inr ⟨g,o,rfl,by rw [List.append_nil];exact h2⟩,h1,hb,hc,(fun h=>nomatch h),hl⟩
theorem enc_items {α:Type} {R:List Value→α→Prop} {size:Nat} (hR:∀ c x,R c x→c.length=size):∀ {l:List α} {cs:List Value},Enc R cs l→cs.length=l.length * size∧∀ j (hj:j<l.length),∃ e,R e l[j]∧∀ r,r<size→cs[j * size+r]?=e[r]?
  | [],cs,h=>by
    obtain rfl:cs=[]:=h
    exact ⟨by simp,fun j hj=>absurd hj (by simp)⟩
  | x :: l,cs,h=>by
    obtain ⟨a,b,rfl,h1,h2⟩:=h
    have ha:=hR _ _ h1
    obtain ⟨h3,h4⟩:=enc_items hR h2
    refine ⟨by rw [List.length_append,List.length_cons,Nat.add_mul,h3,ha];omega,fun j hj=>?_⟩
    cases j with
    | zero=>exact ⟨a,h1,fun r hr=>by rw [Nat.zero_mul,Nat.zero_add,List.getElem?_append_left (by omega)]⟩
    | succ j =>
      obtain ⟨e,p1,p2⟩:=h4 j (by simpa using hj)
      refine ⟨e,by simpa using p1,fun r hr=>?_⟩
      rw [← p2 r hr,List.getElem?_append_right (by rw [ha,Nat.add_mul];omega)]
      congr 1
      rw [ha,Nat.add_mul];omega
end
theorem st_one {C:Cl}:∀ {l:List StZ} {cs:List Value},Enc (StR1 true C) cs l→∀ u ∈ cs,u.oneCell'=true
  | [],cs,h,u,hu=>by
    obtain rfl:cs=[]:=h
    cases hu
  | x :: l,cs,h,u,hu=>by
    obtain ⟨a,b,rfl,⟨vt,ve,rfl,h1,h2⟩,h3⟩:=h
    rcases List.mem_append.1 hu with hu | hu
    · obtain ⟨q1,c1,rfl⟩:=SlX.shape h1
      obtain ⟨q2,c2,rfl⟩:=SlX.shape h2
      simp only [List.mem_cons,List.not_mem_nil,or_false] at hu
      rcases hu with rfl | rfl | rfl | rfl <;> rfl
    · exact st_one h3 u hu
theorem bd_cells {C:Cl} {v:Value} {l:List StZ} (h:BdR true C v l):∃ g o c cs,v=.slice (some ⟨g,o,none⟩) l.length c∧l.length+1≤c∧c≤maxLen∧l.length * 72≤140737488351232∧Enc (StR1 true C) cs l∧cs.length=l.length * 4∧(∀ u ∈ cs,u.oneCell'=true)∧∀ (j:Nat) (u:Value),cs[j]?=some u→C ⟨g,o+j,none⟩=some u:=by
  obtain ⟨q,c,cs,rfl,hm,hr,hE,hb,hc,hq,hl⟩:=h
  rcases hm with hm | hm
  · cases hm
  rcases hr with hr | ⟨g,o,rfl,hr⟩
  · simp [mkB] at hr
  exact ⟨g,o,c,cs,rfl,hm,hc,hb,hE,(enc_items (size:=4) st_lenZ hE).1,st_one hE,fun j u hu=>hr j u (by rw [List.getElem?_append_left (List.getElem?_eq_some_iff.1 hu).1];exact hu)⟩
theorem bd_own {V:World} {B n c:Nat} {q:Option Addr} {m:Mem} {cs xs:List Value} {l l':List StZ} (hE:Enc (StR1 true (mC m)) cs l) (hH:Has V m) (hown:V.ownsRow B 47 4 (.slice q n c) n xs) (hn:l'.length=n) (hb:n * 72≤140737488351232)
    (f:Nat→Nat) (hf:∀ j,j<n→f j<l.length) (hl:∀ j (hj:j<n) (hj':j<l'.length),l'[j]=l[f j]'(hf j hj)) (hx:∀ j r,j<n→r<4→xs[j * 4+r]?=cs[f j * 4+r]?):BdR false (wC V) (.slice q n c) l':=by
  obtain ⟨hlen,hit⟩:=enc_items (size:=4) st_lenZ hE
  subst hn
  have hcl:=has_cle hH
  obtain ⟨hl1,⟨h2,h3⟩ | ⟨g,cap,cur,h2,_,hh,hle,hmx,_,htk⟩⟩:=hown
  · injection h2 with a b d
    subst a d
    have h0:l'=[]:=List.eq_nil_of_length_eq_zero h3
    subst h0
    exact slx_nil
  · injection h2 with a b d
    subst a d
    refine slx_new (size:=4) hb hmx hle fun j hj=>?_
    obtain ⟨e,p1,p2⟩:=hit (f j) (hf j hj)
    have h4:=st_lenZ _ _ p1
    refine ⟨e,?_,h4,fun r u hu=>?_⟩
    · rw [hl j hj hj]
      exact (st_weak p1).le hcl
    · have hr:r<4:=by have:=(List.getElem?_eq_some_iff.1 hu).1;omega
      have h5:xs[j * 4+r]?=some u:=by rw [hx j r hj hr,p2 r hr];exact hu
      rw [Nat.zero_add]
      show V.cell? ⟨g,j * 4+r,none⟩=some u
      rw [← htk,List.getElem?_take] at h5
      split at h5
      · exact cell_of hh (by simpa using h5)
      · cases h5
theorem src_body {V:World} {s:SoZ} {p1 p2 p3 p4:Option Addr} {d1 d2 d3 d4 g5 d5:Nat} {m:Mem} {cs:List Value} {cur:Array Value} (hH:Has V m) (h5:s.funcs.length+1≤d5) (hm5:d5≤maxLen) (h1:StrR true (mC m) (.slice p1 s.principals.length d1) s.principals) (h2:DesR true (mC m) (.slice p2 s.globals.length d2) s.globals) (h3:ArsR true (mC m) (.slice p3 s.arrays.length d3) s.arrays) (h4:DesR true (mC m) (.slice p4 s.channels.length d4) s.channels)
    (hE:Enc (FnR1 true (mC m)) cs s.funcs) (hb5:s.funcs.length * 120≤140737488351232) (k:Nat) (hk:k<s.funcs.length) {q:Option Addr} {n c:Nat} {b:List StZ} (hbd:BdR false (wC V) (.slice q n c) b)
    (hcur:V.heap[g5]?=some (.cells (cur.setIfInBounds (k * 6+5) (.slice q n c)) 43 (0,0))) (hcc:∀ (j:Nat) (u:Value),cs[j]?=some u→cur[j]?=some u):SrcO false (wC V) (setB s k hk b) p1 d1 p2 d2 p3 d3 p4 d4 (some ⟨g5,0,none⟩) d5:=by
  have hcl:=has_cle hH
  obtain ⟨hlen,hit⟩:=enc_items (size:=6) fn_lenZ hE
  refine ⟨(str_weak h1).le hcl,(des_weak h2).le hcl,(ars_weak h3).le hcl,(des_weak h4).le hcl,?_⟩
  have hsl:(setB s k hk b).funcs.length=s.funcs.length:=by simp [setB]
  rw [← hsl] at hb5 h5
  refine slx_new (size:=6) hb5 hm5 (by omega) fun j hj=>?_
  have hj':j<s.funcs.length:=by omega
  obtain ⟨e,p1,p2⟩:=hit j hj'
  obtain ⟨a,b',d,e',he,hv,x1,x2,x3,x4⟩:=fn_weak p1
  have key:∀ r u,r<6→e[r]?=some u→¬ (j=k∧r=5)→V.cell? ⟨g5,j * 6+r,none⟩=some u:=fun r u hr hu hne=>by
    have h6:cur[j * 6+r]?=some u:=hcc _ _ (by rw [p2 r hr];exact hu)
    refine cell_of hcur ?_
    rw [Array.getElem?_setIfInBounds]
    rw [if_neg (by omega)]
    exact h6
  by_cases hjk:j=k
  · subst hjk
    have e1:(setB s j hk b).funcs[j]=⟨s.funcs[j].name,s.funcs[j].level,s.funcs[j].params,s.funcs[j].results,s.funcs[j].vars,b⟩:=by simp [setB]
    refine ⟨[.string s.funcs[j].name,.int .u64 (s.funcs[j].level:Nat),a,b',d,.slice q n c],?_,rfl,fun r u hu=>?_⟩
    · rw [e1]
      exact ⟨a,b',d,_,rfl,hv,x1.le hcl,x2.le hcl,x3.le hcl,hbd⟩
    · rw [Nat.zero_add]
      show V.cell? _=some u
      subst he
      have hr:r<6:=by have:=(List.getElem?_eq_some_iff.1 hu).1;simpa using this
      by_cases h5r:r=5
      · subst h5r
        obtain rfl:Value.slice q n c=u:=by simpa using hu
        refine cell_of hcur ?_
        have hin:j * 6+5<cur.size:=by
          have h7:cs[j * 6+5]?=some e':=by rw [p2 5 (by decide)];rfl
          have:=hcc _ _ h7
          rw [Array.getElem?_eq_some_iff] at this
          exact this.1
        rw [Array.getElem?_setIfInBounds]
        simp [hin]
      · refine key r u hr ?_ (fun h=>h5r h.2)
        rcases r with _ | _ | _ | _ | _ | r
        · exact hu
        · exact hu
        · exact hu
        · exact hu
        · exact hu
        · omega
  · have e1:(setB s k hk b).funcs[j]=s.funcs[j]:=by simp [setB,Ne.symm hjk]
    refine ⟨e,?_,fn_lenZ _ _ p1,fun r u hu=>?_⟩
    · rw [e1]
      exact (fn_weak p1).le hcl
    · rw [Nat.zero_add]
      have hr:r<6:=by have:=(List.getElem?_eq_some_iff.1 hu).1;have:=fn_lenZ _ _ p1;omega
      exact key r u hr hu (fun h=>hjk h.1)
theorem flows_body {V:World} {s:SoZ} {p1 p2 p3 p4 p5:Option Addr} {d1 d2 d3 d4 d5:Nat} {k:Nat} {hk:k<s.funcs.length} {b:List StZ} (h:SrcO false (wC V) (setB s k hk b) p1 d1 p2 d2 p3 d3 p4 d4 p5 d5) {R:Int × Int × Int} (hR:flowZ (setB s k hk b)=R) :
    Calls Tryz.prog 10 #[.agg #[.slice p1 s.principals.length d1,.slice p2 s.globals.length d2,.slice p3 s.arrays.length d3,.slice p4 s.channels.length d4,.slice p5 s.funcs.length d5]] V (RetB (.agg (flA R)) V):=by
  have h1:=flows_p h cle_refl
  rw [hR] at h1
  unfold srV at h1
  have e1:(setB s k hk b).principals=s.principals:=rfl
  have e2:(setB s k hk b).globals=s.globals:=rfl
  have e3:(setB s k hk b).arrays=s.arrays:=rfl
  have e4:(setB s k hk b).channels=s.channels:=rfl
  have e5:(setB s k hk b).funcs.length=s.funcs.length:=by simp [setB]
  rw [e1,e2,e3,e4,e5] at h1
  exact h1
end Go.Proofs.YtlpdjfimefjmcaaGreatDoor
namespace Go.Proofs.YtlpdjfimefjmcaaGreatDoor.Q
structure Tok where
  kind:Nat
  text:List Nat
  value:Nat
  at_:Nat
deriving DecidableEq
def valD (l:List Nat):Nat:=l.foldl (fun n d=>10 * n+(d - 48)) 0
abbrev most:Nat:=9223372036854775807
def inC (c:Nat):Bool:=c != 10
theorem drop_lt (c:Nat) (r:List Nat) (n:Nat) (h:n ≠ 0):((c :: r).drop n).length<(c :: r).length:=by
  rw [List.length_drop,List.length_cons];omega
theorem dropWhile_lt (r:List Nat):((35 :: r).dropWhile inC).length<(35 :: r).length:=by
  rw [List.dropWhile_cons,if_pos (by decide)]
  have:=(List.dropWhile_sublist inC (l:=r)).length_le
  rw [List.length_cons];omega
def scanL (l:List Nat) (a:Nat):List Tok × Nat × Nat :=
  match l with
  | []=>([],a,0)
  | c :: r =>
    if blankB c then scanL r (a+1)
    else if _h35:c=35 then scanL ((c :: r).dropWhile inC) (a+((c :: r).takeWhile inC).length)
    else if _h0:(wordL (c :: r)).1=0 then ([],a,40)
    else if (wordL (c :: r)).2=1∧32<(wordL (c :: r)).1 then ([],a,3)
    else if (wordL (c :: r)).2=3∧most<valD ((c :: r).take (wordL (c :: r)).1) then ([],a,3)
    else
      (⟨(wordL (c :: r)).2,(c :: r).take (wordL (c :: r)).1,if (wordL (c :: r)).2=3 then valD ((c :: r).take (wordL (c :: r)).1) else 0,a⟩ :: (scanL ((c :: r).drop (wordL (c :: r)).1) (a+(wordL (c :: r)).1)).1,
        (scanL ((c :: r).drop (wordL (c :: r)).1) (a+(wordL (c :: r)).1)).2)
termination_by l.length
decreasing_by
  · simp
  · subst _h35;exact dropWhile_lt r
  · exact drop_lt c r _ _h0
theorem scanL_blank {c:Nat} (r:List Nat) (a:Nat) (h:blankB c=true):scanL (c :: r) a=scanL r (a+1):=by rw [scanL,if_pos h]
structure Good (k:Nat) (t:List Nat) (v:Nat):Prop where
  word:wordL t=(t.length,k)
  ne:t ≠ []
  head:∀ c,t.head?=some c→blankB c=false∧c ≠ 35
  name:¬ (k=1∧32<t.length)
  num:¬ (k=3∧most<valD t)
  val:v=if k=3 then valD t else 0
theorem good_of {s:List Nat} (hs:(wordL s).1 ≠ 0) (hh:∀ c,s.head?=some c→blankB c=false∧c ≠ 35) (hn:¬ ((wordL s).2=1∧32<(wordL s).1)) (hu:¬ ((wordL s).2=3∧most<valD (s.take (wordL s).1))) :
    Good (wordL s).2 (s.take (wordL s).1) (if (wordL s).2=3 then valD (s.take (wordL s).1) else 0):=by
  have hle:=wordL_le s
  have hlen:(s.take (wordL s).1).length=(wordL s).1:=by rw [List.length_take];omega
  have hag:=wordL_again s hs [] (.inl rfl)
  rw [List.append_nil] at hag
  refine ⟨by rw [hag,hlen],fun e=>hs (by rw [← hlen,e];rfl),fun c hc=>?_,by rw [hlen];exact hn,hu,rfl⟩
  cases s with
  | nil=>simp at hc
  | cons d s =>
    obtain ⟨n,hn'⟩:∃ n,(wordL (d :: s)).1=n+1:=⟨(wordL (d :: s)).1 - 1,by omega⟩
    rw [hn',List.take_succ_cons] at hc
    obtain rfl:d=c:=by simpa using hc
    exact hh d rfl
theorem scanL_all:∀ (N:Nat) (l:List Nat),l.length≤N→∀ a,∀ t ∈ (scanL l a).1,Good t.kind t.text t.value
  | _,[],_,a,t,ht=>by rw [scanL] at ht;exact absurd ht (by simp)
  | 0,c :: r,h,_,_,_=>absurd h (by simp)
  | N+1,c :: r,h,a,t,ht=>by
    have hr:r.length≤N:=by simpa using h
    rw [scanL] at ht
    split at ht
    · exact scanL_all N r hr _ t ht
    · rename_i hb
      split at ht
      · rename_i h35
        subst h35
        exact scanL_all N _ (by have:=dropWhile_lt r;rw [List.length_cons] at this;omega) _ t ht
      · rename_i h35
        split at ht
        · exact absurd ht (by simp)
        · rename_i h0
          split at ht
          · exact absurd ht (by simp)
          · rename_i hn
            split at ht
            · exact absurd ht (by simp)
            · rename_i hu
              rcases List.mem_cons.1 ht with rfl | ht
              · refine good_of h0 (fun d hd=>?_) hn hu
                obtain rfl:c=d:=by simpa using hd
                exact ⟨by simpa using hb,h35⟩
              · exact scanL_all N _ (by have:=drop_lt c r _ h0;rw [List.length_cons] at this;omega) _ t ht
end Go.Proofs.YtlpdjfimefjmcaaGreatDoor.Q
namespace Go.Proofs.YtlpdjfimefjmcaaGreatDoor.Q
open Go Go.RowKit
theorem ret_bool {a b:Bool} (h:a=b):Ending.returned (.bool a)=.returned (.bool b):=by rw [h]
theorem ret_int {k:IntKind} {a b:Int} (h:a=b):Ending.returned (.int k a)=.returned (.int k b):=by rw [h]
theorem letterB_iff (c:Nat):letterB c=true ↔ (97≤c∧c≤122) ∨ c=95:=by simp [letterB]
theorem digitB_iff (c:Nat):digitB c=true ↔ 48≤c∧c≤57:=by simp [digitB]
theorem blankB_iff (c:Nat):blankB c=true ↔ c=9 ∨ c=10 ∨ c=13 ∨ c=32:=by simp [blankB,or_assoc]
theorem isLetter_any (c:Nat) (w:World):Calls Tryz.prog 188 #[.int .u8 (c:Int)] w fun e w'=>e=.returned (.bool (letterB c))∧w=w':=by
  have hc:(97≤c∧c≤122) ∨ c<97 ∨ 122<c:=by omega
  rcases hc with ⟨h1,h2⟩ | h1 | h1
  all_goals
    go_enter Tryz.func188,Tryz.ntmps188
    go_wp2
    all_goals
      go_ret
      exact ⟨ret_bool (by rw [Bool.eq_iff_iff,letterB_iff];simp;omega),rfl⟩
theorem isDigit_any (c:Nat) (w:World):Calls Tryz.prog 191 #[.int .u8 (c:Int)] w fun e w'=>e=.returned (.bool (digitB c))∧w=w':=by
  have hc:(48≤c∧c≤57) ∨ c<48 ∨ 57<c:=by omega
  rcases hc with ⟨h1,h2⟩ | h1 | h1
  all_goals
    go_enter Tryz.func191,Tryz.ntmps191
    go_wp2
    all_goals
      go_ret
      exact ⟨ret_bool (by rw [Bool.eq_iff_iff,digitB_iff];simp;omega),rfl⟩
theorem isBlank_any (c:Nat) (w:World):Calls Tryz.prog 187 #[.int .u8 (c:Int)] w fun e w'=>e=.returned (.bool (blankB c))∧w=w':=by
  go_enter Tryz.func187,Tryz.ntmps187
  go_wp2
  all_goals
    go_ret
    exact ⟨ret_bool (by rw [Bool.eq_iff_iff,blankB_iff];simp;omega),rfl⟩
theorem isInLine_any (c:Nat) (w:World):Calls Tryz.prog 186 #[.int .u8 (c:Int)] w fun e w'=>e=.returned (.bool (inC c))∧w=w':=by
  go_enter Tryz.func186,Tryz.ntmps186
  go_wp2
  go_ret
  exact ⟨ret_bool (by rw [Bool.eq_iff_iff];simp [inC];omega),rfl⟩
theorem isOfName_any (c:Nat) (w:World):Calls Tryz.prog 190 #[.int .u8 (c:Int)] w fun e w'=>e=.returned (.bool (nameB c))∧w=w':=by
  cases h:letterB c
  · have h1:=h ▸ isLetter_any c w
    go_enter Tryz.func190,Tryz.ntmps190
    go_wp2_with (first | (go_at_call 188;refine h1.mono ?_;rintro e w' ⟨rfl,rfl⟩) | (go_at_call 191;refine (isDigit_any c _).mono ?_;rintro e w' ⟨rfl,rfl⟩))
    go_ret
    exact ⟨ret_bool (by simp [nameB,h]),rfl⟩
  · have h1:=h ▸ isLetter_any c w
    go_enter Tryz.func190,Tryz.ntmps190
    go_wp2_with (first | (go_at_call 188;refine h1.mono ?_;rintro e w' ⟨rfl,rfl⟩) | (go_at_call 191;refine (isDigit_any c _).mono ?_;rintro e w' ⟨rfl,rfl⟩))
    go_ret
    exact ⟨ret_bool (by simp [nameB,h]),rfl⟩
end Go.Proofs.YtlpdjfimefjmcaaGreatDoor.Q
namespace Go.Proofs.YtlpdjfimefjmcaaGreatDoor.Q
theorem foldl_ge:∀ (l:List Nat) (n:Nat),n≤l.foldl (fun n d=>10 * n+(d - 48)) n
  | [],n=>Nat.le_refl _
  | d :: l,n=>by
    have:=foldl_ge l (10 * n+(d - 48))
    rw [List.foldl_cons];omega
theorem digit_range {c:Nat} (h:digitB c=true):48≤c∧c≤57:=by
  unfold digitB at h
  simpa using h
end Go.Proofs.YtlpdjfimefjmcaaGreatDoor.Q
namespace Go.Proofs.YtlpdjfimefjmcaaGreatDoor.Q
open Go
def errL (l:List Nat):Nat :=
  if (wordL l).1=0 then 40 else if (wordL l).2=1∧32<(wordL l).1 then 3 else if (wordL l).2=3∧most<valD (l.take (wordL l).1) then 3 else 0
def valL (l:List Nat):Nat:=if (wordL l).2=3 then valD (l.take (wordL l).1) else 0
def gapL (l:List Nat):Nat:=if l.head?=some 35 then (l.takeWhile inC).length else (l.takeWhile blankB).length
theorem drop_takeWhile {p:Nat→Bool}:∀ l:List Nat,l.drop (l.takeWhile p).length=l.dropWhile p
  | []=>rfl
  | c :: r=>by
    rw [List.takeWhile_cons,List.dropWhile_cons]
    split
    · rw [List.length_cons,List.drop_succ_cons,drop_takeWhile r]
    · rfl
theorem scan_blanks:∀ (l:List Nat) (a:Nat),scanL l a=scanL (l.dropWhile blankB) (a+(l.takeWhile blankB).length)
  | [],a=>by simp
  | c :: r,a=>by
    by_cases h:blankB c=true
    · rw [scanL_blank r a h,scan_blanks r (a+1),List.dropWhile_cons,if_pos h,List.takeWhile_cons,if_pos h,List.length_cons]
      congr 1;omega
    · rw [List.dropWhile_cons,if_neg h,List.takeWhile_cons,if_neg h];rfl
theorem scan_comment (r:List Nat) (a:Nat):scanL (35 :: r) a=scanL ((35 :: r).dropWhile inC) (a+((35 :: r).takeWhile inC).length):=by
  rw [scanL,if_neg (by decide),dif_pos rfl]
theorem scan_gap (l:List Nat) (a:Nat):scanL l a=scanL (l.drop (gapL l)) (a+gapL l):=by
  unfold gapL
  split
  · rename_i h
    cases l with
    | nil=>simp at h
    | cons c r =>
      obtain rfl:c=35:=by simpa using h
      rw [drop_takeWhile]
      exact scan_comment r a
  · rw [drop_takeWhile]
    exact scan_blanks l a
theorem no_gap {c:Nat} {r:List Nat} (h:gapL (c :: r)=0):blankB c=false∧c ≠ 35:=by
  unfold gapL at h
  split at h
  · rename_i h35
    obtain rfl:c=35:=by simpa using h35
    rw [List.takeWhile_cons,if_pos (by decide)] at h
    simp at h
  · rename_i h35
    refine ⟨?_,by simpa using h35⟩
    rw [List.takeWhile_cons] at h
    split at h
    · simp at h
    · rename_i hb;simpa using hb
theorem scan_err {c:Nat} {r:List Nat} (a:Nat) (h:blankB c=false) (h35:c ≠ 35) (he:errL (c :: r) ≠ 0):scanL (c :: r) a=([],a,errL (c :: r)):=by
  unfold errL at he ⊢
  rw [scanL,if_neg (by rw [h];simp),dif_neg h35]
  split
  · rfl
  · rename_i h0
    rw [if_neg h0] at he
    split
    · rfl
    · rename_i h1
      rw [if_neg h1] at he
      split
      · rfl
      · rename_i h2;rw [if_neg h2] at he;exact absurd rfl he
theorem scan_word {c:Nat} {r:List Nat} (a:Nat) (h:blankB c=false) (h35:c ≠ 35) (he:errL (c :: r)=0) :
    scanL (c :: r) a=(⟨(wordL (c :: r)).2,(c :: r).take (wordL (c :: r)).1,valL (c :: r),a⟩ :: (scanL ((c :: r).drop (wordL (c :: r)).1) (a+(wordL (c :: r)).1)).1,(scanL ((c :: r).drop (wordL (c :: r)).1) (a+(wordL (c :: r)).1)).2):=by
  unfold errL at he
  rw [scanL,if_neg (by rw [h];simp),dif_neg h35]
  split
  · rename_i h0;rw [if_pos h0] at he;exact absurd he (by decide)
  · rename_i h0
    rw [if_neg h0] at he
    split
    · rename_i h1;rw [if_pos h1] at he;exact absurd he (by decide)
    · rename_i h1
      rw [if_neg h1] at he
      split
      · rename_i h2;rw [if_pos h2] at he;exact absurd he (by decide)
      · rfl
theorem errL_word {l:List Nat} (he:errL l=0):(wordL l).1 ≠ 0:=by
  intro h
  rw [errL,if_pos h] at he
  exact absurd he (by decide)
def itemsOf (r:List Tok × Nat × Nat):List (Tok × Nat):=r.1.map (fun t=>(t,0))++if r.2.2=0 then [] else [(⟨0,[],0,r.2.1⟩,r.2.2)]
theorem items_word {c:Nat} {r:List Nat} (a:Nat) (h:blankB c=false) (h35:c ≠ 35) (he:errL (c :: r)=0) :
    itemsOf (scanL (c :: r) a)=(⟨(wordL (c :: r)).2,(c :: r).take (wordL (c :: r)).1,valL (c :: r),a⟩,0) :: itemsOf (scanL ((c :: r).drop (wordL (c :: r)).1) (a+(wordL (c :: r)).1)):=by
  rw [scan_word a h h35 he];rfl
theorem items_err {c:Nat} {r:List Nat} (a:Nat) (h:blankB c=false) (h35:c ≠ 35) (he:errL (c :: r) ≠ 0) :
    itemsOf (scanL (c :: r) a)=[(⟨0,[],0,a⟩,errL (c :: r))]:=by
  rw [scan_err a h h35 he,itemsOf];simp [he]
theorem items_nil (a:Nat):itemsOf (scanL [] a)=[]:=by rw [scanL];rfl
theorem items_gap (l:List Nat) (a:Nat):itemsOf (scanL l a)=itemsOf (scanL (l.drop (gapL l)) (a+gapL l)):=by rw [← scan_gap]
theorem scan_count:∀ (N:Nat) (l:List Nat),l.length≤N→∀ a,(scanL l a).1.length≤l.length
  | N,l,h,a=>by
    cases l with
    | nil=>rw [scanL];exact Nat.le_refl _
    | cons c r =>
      by_cases hb:blankB c=true
      · cases N with
        | zero=>simp at h
        | succ N =>
          rw [scanL_blank r a hb]
          have:=scan_count N r (by simpa using h) (a+1)
          rw [List.length_cons];omega
      · have hb:blankB c=false:=by simpa using hb
        by_cases h35:c=35
        · cases N with
          | zero=>simp at h
          | succ N =>
            subst h35
            rw [scan_comment]
            have hl:=dropWhile_lt r
            have:=scan_count N ((35 :: r).dropWhile inC) (by rw [List.length_cons] at h hl;omega) (a+((35 :: r).takeWhile inC).length)
            omega
        · by_cases he:errL (c :: r)=0
          · cases N with
            | zero=>simp at h
            | succ N =>
              rw [scan_word a hb h35 he]
              have hl:=drop_lt c r _ (errL_word he)
              have:=scan_count N ((c :: r).drop (wordL (c :: r)).1) (by rw [List.length_cons] at h hl;omega) (a+(wordL (c :: r)).1)
              show _+1≤_
              omega
          · rw [scan_err a hb h35 he];simp
end Go.Proofs.YtlpdjfimefjmcaaGreatDoor.Q
namespace Go.Proofs.YtlpdjfimefjmcaaGreatDoor.Q
open Go Go.RowKit
def bl (s:ByteArray):List Nat:=s.data.toList.map UInt8.toNat
theorem bl_length (s:ByteArray):(bl s).length=s.size:=by simp [bl]
theorem bl_get (s:ByteArray) (i:Nat) (h:i<s.size):(bl s)[i]?=some (s[i]).toNat:=by
  have h':i<s.data.toList.length:=by simpa using h
  rw [bl,List.getElem?_map,List.getElem?_eq_getElem h'];rfl
theorem bl_extract (s:ByteArray) (a b:Nat):bl (s.extract a b)=((bl s).take b).drop a:=by
  unfold bl
  rw [ByteArray.data_extract,Array.toList_extract,List.extract_eq_take_drop,List.map_take,List.map_drop,List.drop_take]
theorem bl_inj {s t:ByteArray} (h:bl s=bl t):s=t:=by
  unfold bl at h
  have:s.data.toList=t.data.toList:=(List.map_inj_right (fun a b h=>UInt8.toNat_inj.1 h)).1 h
  apply ByteArray.ext
  exact Array.ext' this
theorem run_step {p:Nat→Bool} (l:List Nat) (k:Nat) (h:∀ x ∈ l.take k,p x=true) (c:Nat) (hc:l[k]?=some c) (hp:p c=true):∀ x ∈ l.take (k+1),p x=true:=by
  rw [List.take_add_one,hc]
  intro x hx
  rcases List.mem_append.1 hx with h1 | h1
  · exact h x h1
  · obtain rfl:x=c:=by simpa using h1
    exact hp
theorem run_stop {p:Nat→Bool} (l:List Nat) (k:Nat) (h:∀ x ∈ l.take k,p x=true) (c:Nat) (hc:l[k]?=some c) (hp:p c=false):(l.takeWhile p).length=k:=by
  have hk:k<l.length:=(List.getElem?_eq_some_iff.1 hc).1
  have h2:l=l.take k++l.drop k:=(List.take_append_drop k l).symm
  have hd:(l.drop k).head?=some c:=by rw [List.head?_drop];exact hc
  rw [h2, takeWhile_stop _ _ h (fun d hd' => by rw [hd] at hd'; obtain rfl : c = d := by simpa using hd'
                                                exact hp),List.length_take]
  omega
theorem run_end {p:Nat→Bool} (l:List Nat) (h:∀ x ∈ l.take l.length,p x=true):(l.takeWhile p).length=l.length:=by
  rw [List.take_length] at h
  have:=takeWhile_stop l [] h (by simp)
  rw [List.append_nil] at this
  rw [this]
set_option maxHeartbeats 400000 in
theorem run_name (s:ByteArray) (hs:s.size≤9223372036854775806) (w:World) :
    Calls Tryz.prog 185 #[.string s,.func (.func 190) #[] #[]] w fun e w'=>e=.returned (.int .i64 ((((bl s).takeWhile nameB).length:Nat):Int))∧w=w':=by
  go_enter Tryz.func185,Tryz.ntmps185
  go_wp2
  go_loop [8] (fun i=>∃ k:Nat,k≤s.size∧i=.int .i64 k∧Hid (∀ x ∈ (bl s).take k,nameB x=true)) (fun i=>s.size - (intOf i).toNat)
  case atStart=>exact ⟨0,Nat.zero_le _,rfl,Lib.hid (by simp)⟩
  case round =>
    obtain ⟨k,hk,rfl,H⟩:=hrel
    by_cases hlt:k<s.size
    · have hb:=Lib.hid (bl_get s k hlt)
      cases hp:nameB (s[k]).toNat
      · have hcall:=hp ▸ isOfName_any (s[k]).toNat w
        have HP:=Lib.hid hp
        clear hp
        go_wp2_with (go_at_call 190;refine hcall.mono ?_;rintro e w' ⟨rfl,rfl⟩)
        go_ret
        exact ⟨ret_int (by rw [run_stop _ k H.out _ hb.out HP.out]),rfl⟩
      · have hcall:=hp ▸ isOfName_any (s[k]).toNat w
        have HP:=Lib.hid hp
        clear hp
        go_wp2_with (go_at_call 190;refine hcall.mono ?_;rintro e w' ⟨rfl,rfl⟩)
        go_round
        case rel=>exact ⟨k+1,by omega,by go_num,Lib.hid (run_step _ k H.out _ hb.out HP.out)⟩
        case measure=>simp [intOf];omega
    · have hk':k=(bl s).length:=by rw [bl_length];omega
      have HK:=Lib.hid hk'
      clear hk'
      go_wp2
      go_ret
      exact ⟨ret_int (by rw [run_end _ (HK.out ▸ H.out),bl_length]),rfl⟩
set_option maxHeartbeats 400000 in
theorem run_digit (s:ByteArray) (hs:s.size≤9223372036854775806) (w:World) :
    Calls Tryz.prog 185 #[.string s,.func (.func 191) #[] #[]] w fun e w'=>e=.returned (.int .i64 ((((bl s).takeWhile digitB).length:Nat):Int))∧w=w':=by
  go_enter Tryz.func185,Tryz.ntmps185
  go_wp2
  go_loop [8] (fun i=>∃ k:Nat,k≤s.size∧i=.int .i64 k∧Hid (∀ x ∈ (bl s).take k,digitB x=true)) (fun i=>s.size - (intOf i).toNat)
  case atStart=>exact ⟨0,Nat.zero_le _,rfl,Lib.hid (by simp)⟩
  case round =>
    obtain ⟨k,hk,rfl,H⟩:=hrel
    by_cases hlt:k<s.size
    · have hb:=Lib.hid (bl_get s k hlt)
      cases hp:digitB (s[k]).toNat
      · have hcall:=hp ▸ isDigit_any (s[k]).toNat w
        have HP:=Lib.hid hp
        clear hp
        go_wp2_with (go_at_call 191;refine hcall.mono ?_;rintro e w' ⟨rfl,rfl⟩)
        go_ret
        exact ⟨ret_int (by rw [run_stop _ k H.out _ hb.out HP.out]),rfl⟩
      · have hcall:=hp ▸ isDigit_any (s[k]).toNat w
        have HP:=Lib.hid hp
        clear hp
        go_wp2_with (go_at_call 191;refine hcall.mono ?_;rintro e w' ⟨rfl,rfl⟩)
        go_round
        case rel=>exact ⟨k+1,by omega,by go_num,Lib.hid (run_step _ k H.out _ hb.out HP.out)⟩
        case measure=>simp [intOf];omega
    · have hk':k=(bl s).length:=by rw [bl_length];omega
      have HK:=Lib.hid hk'
      clear hk'
      go_wp2
      go_ret
      exact ⟨ret_int (by rw [run_end _ (HK.out ▸ H.out),bl_length]),rfl⟩
set_option maxHeartbeats 400000 in
theorem run_line (s:ByteArray) (hs:s.size≤9223372036854775806) (w:World) :
    Calls Tryz.prog 185 #[.string s,.func (.func 186) #[] #[]] w fun e w'=>e=.returned (.int .i64 ((((bl s).takeWhile inC).length:Nat):Int))∧w=w':=by
  go_enter Tryz.func185,Tryz.ntmps185
  go_wp2
  go_loop [8] (fun i=>∃ k:Nat,k≤s.size∧i=.int .i64 k∧Hid (∀ x ∈ (bl s).take k,inC x=true)) (fun i=>s.size - (intOf i).toNat)
  case atStart=>exact ⟨0,Nat.zero_le _,rfl,Lib.hid (by simp)⟩
  case round =>
    obtain ⟨k,hk,rfl,H⟩:=hrel
    by_cases hlt:k<s.size
    · have hb:=Lib.hid (bl_get s k hlt)
      cases hp:inC (s[k]).toNat
      · have hcall:=hp ▸ isInLine_any (s[k]).toNat w
        have HP:=Lib.hid hp
        clear hp
        go_wp2_with (go_at_call 186;refine hcall.mono ?_;rintro e w' ⟨rfl,rfl⟩)
        go_ret
        exact ⟨ret_int (by rw [run_stop _ k H.out _ hb.out HP.out]),rfl⟩
      · have hcall:=hp ▸ isInLine_any (s[k]).toNat w
        have HP:=Lib.hid hp
        clear hp
        go_wp2_with (go_at_call 186;refine hcall.mono ?_;rintro e w' ⟨rfl,rfl⟩)
        go_round
        case rel=>exact ⟨k+1,by omega,by go_num,Lib.hid (run_step _ k H.out _ hb.out HP.out)⟩
        case measure=>simp [intOf];omega
    · have hk':k=(bl s).length:=by rw [bl_length];omega
      have HK:=Lib.hid hk'
      clear hk'
      go_wp2
      go_ret
      exact ⟨ret_int (by rw [run_end _ (HK.out ▸ H.out),bl_length]),rfl⟩
set_option maxHeartbeats 400000 in
theorem run_blank (s:ByteArray) (hs:s.size≤9223372036854775806) (w:World) :
    Calls Tryz.prog 185 #[.string s,.func (.func 187) #[] #[]] w fun e w'=>e=.returned (.int .i64 ((((bl s).takeWhile blankB).length:Nat):Int))∧w=w':=by
  go_enter Tryz.func185,Tryz.ntmps185
  go_wp2
  go_loop [8] (fun i=>∃ k:Nat,k≤s.size∧i=.int .i64 k∧Hid (∀ x ∈ (bl s).take k,blankB x=true)) (fun i=>s.size - (intOf i).toNat)
  case atStart=>exact ⟨0,Nat.zero_le _,rfl,Lib.hid (by simp)⟩
  case round =>
    obtain ⟨k,hk,rfl,H⟩:=hrel
    by_cases hlt:k<s.size
    · have hb:=Lib.hid (bl_get s k hlt)
      cases hp:blankB (s[k]).toNat
      · have hcall:=hp ▸ isBlank_any (s[k]).toNat w
        have HP:=Lib.hid hp
        clear hp
        go_wp2_with (go_at_call 187;refine hcall.mono ?_;rintro e w' ⟨rfl,rfl⟩)
        go_ret
        exact ⟨ret_int (by rw [run_stop _ k H.out _ hb.out HP.out]),rfl⟩
      · have hcall:=hp ▸ isBlank_any (s[k]).toNat w
        have HP:=Lib.hid hp
        clear hp
        go_wp2_with (go_at_call 187;refine hcall.mono ?_;rintro e w' ⟨rfl,rfl⟩)
        go_round
        case rel=>exact ⟨k+1,by omega,by go_num,Lib.hid (run_step _ k H.out _ hb.out HP.out)⟩
        case measure=>simp [intOf];omega
    · have hk':k=(bl s).length:=by rw [bl_length];omega
      have HK:=Lib.hid hk'
      clear hk'
      go_wp2
      go_ret
      exact ⟨ret_int (by rw [run_end _ (HK.out ▸ H.out),bl_length]),rfl⟩
theorem gap_any (s:ByteArray) (h0:0<s.size) (hs:s.size≤9223372036854775806) (w:World) :
    Calls Tryz.prog 179 #[.string s] w fun e w'=>e=.returned (.int .i64 ((gapL (bl s):Nat):Int))∧w=w':=by
  have hg:=bl_get s 0 h0
  rw [← List.head?_eq_getElem?] at hg
  have h1:=run_line s hs w
  have h2:=run_blank s hs w
  by_cases hc:(s[0]).toNat=35
  · have hn:(((s[0]).toNat:Int) == 35)=true:=by simp;omega
    have hgl:gapL (bl s)=((bl s).takeWhile inC).length:=by rw [gapL,hg,if_pos (by rw [hc])]
    have HG:=Lib.hid hgl
    clear hgl hg hc
    go_enter Tryz.func179,Tryz.ntmps179
    go_wp2_with (go_at_call 185;refine h1.mono ?_;rintro e w' ⟨rfl,rfl⟩)
    go_ret
    exact ⟨ret_int (by rw [HG.out]),rfl⟩
  · have hn:(((s[0]).toNat:Int) == 35)=false:=by simp;omega
    have hgl:gapL (bl s)=((bl s).takeWhile blankB).length:=by rw [gapL,hg,if_neg (by simpa using hc)]
    have HG:=Lib.hid hgl
    clear hgl hg hc
    go_enter Tryz.func179,Tryz.ntmps179
    go_wp2_with (go_at_call 185;refine h2.mono ?_;rintro e w' ⟨rfl,rfl⟩)
    go_ret
    exact ⟨ret_int (by rw [HG.out]),rfl⟩
end Go.Proofs.YtlpdjfimefjmcaaGreatDoor.Q
namespace Go.Proofs.YtlpdjfimefjmcaaGreatDoor.Q
open Go Go.RowKit
def marksL:List (List Nat):=mark1.map (fun c=>[c])++mark2
theorem ne_lit {s:ByteArray} {L:List (List Nat)} {u:List UInt8} (h:bl s ∉ L) (hu:u.map UInt8.toNat ∈ L):(s.toList == u)=false:=by
  rw [beq_eq_false_iff_ne]
  intro e
  rw [Lib.toList_data] at e
  exact h (by unfold bl;rw [e];exact hu)
set_option maxRecDepth 100000 in
set_option maxHeartbeats 1000000 in
theorem isKeyword_no (s:ByteArray) (h:bl s ∉ keysL) (w:World):Calls Tryz.prog 197 #[.string s] w fun e w'=>e=.returned (.bool false)∧w=w':=by
  have e0:(s.toList == [112,114,105,110,99,105,112,97,108])=false:=ne_lit h (by decide)
  have e1:(s.toList == [103,108,111,98,97,108])=false:=ne_lit h (by decide)
  have e2:(s.toList == [97,114,114,97,121])=false:=ne_lit h (by decide)
  have e3:(s.toList == [99,104,97,110,110,101,108])=false:=ne_lit h (by decide)
  have e4:(s.toList == [102,117,110,99])=false:=ne_lit h (by decide)
  have e5:(s.toList == [118,97,114])=false:=ne_lit h (by decide)
  have e6:(s.toList == [105,102])=false:=ne_lit h (by decide)
  have e7:(s.toList == [101,108,115,101])=false:=ne_lit h (by decide)
  have e8:(s.toList == [119,104,105,108,101])=false:=ne_lit h (by decide)
  have e9:(s.toList == [115,101,110,100])=false:=ne_lit h (by decide)
  have e10:(s.toList == [114,101,116,117,114,110])=false:=ne_lit h (by decide)
  clear h
  go_enter Tryz.func197,Tryz.ntmps197
  go_wp2
  go_ret
  exact ⟨rfl,rfl⟩
set_option maxRecDepth 100000 in
set_option maxHeartbeats 1000000 in
theorem isKeyword_yes (s:ByteArray) (h:bl s ∈ keysL) (w:World):Calls Tryz.prog 197 #[.string s] w fun e w'=>e=.returned (.bool true)∧w=w':=by
  simp only [keysL,List.mem_cons,List.not_mem_nil,or_false] at h
  rcases h with h | h | h | h | h | h | h | h | h | h | h
  · obtain rfl:s=⟨#[112,114,105,110,99,105,112,97,108]⟩:=bl_inj (h.trans (by decide))
    clear h
    go_enter Tryz.func197,Tryz.ntmps197
    go_wp2
    go_ret
    exact ⟨rfl,rfl⟩
  · obtain rfl:s=⟨#[103,108,111,98,97,108]⟩:=bl_inj (h.trans (by decide))
    clear h
    go_enter Tryz.func197,Tryz.ntmps197
    go_wp2
    go_ret
    exact ⟨rfl,rfl⟩
  · obtain rfl:s=⟨#[97,114,114,97,121]⟩:=bl_inj (h.trans (by decide))
    clear h
    go_enter Tryz.func197,Tryz.ntmps197
    go_wp2
    go_ret
    exact ⟨rfl,rfl⟩
  · obtain rfl:s=⟨#[99,104,97,110,110,101,108]⟩:=bl_inj (h.trans (by decide))
    clear h
    go_enter Tryz.func197,Tryz.ntmps197
    go_wp2
    go_ret
    exact ⟨rfl,rfl⟩
  · obtain rfl:s=⟨#[102,117,110,99]⟩:=bl_inj (h.trans (by decide))
    clear h
    go_enter Tryz.func197,Tryz.ntmps197
    go_wp2
    go_ret
    exact ⟨rfl,rfl⟩
  · obtain rfl:s=⟨#[118,97,114]⟩:=bl_inj (h.trans (by decide))
    clear h
    go_enter Tryz.func197,Tryz.ntmps197
    go_wp2
    go_ret
    exact ⟨rfl,rfl⟩
  · obtain rfl:s=⟨#[105,102]⟩:=bl_inj (h.trans (by decide))
    clear h
    go_enter Tryz.func197,Tryz.ntmps197
    go_wp2
    go_ret
    exact ⟨rfl,rfl⟩
  · obtain rfl:s=⟨#[101,108,115,101]⟩:=bl_inj (h.trans (by decide))
    clear h
    go_enter Tryz.func197,Tryz.ntmps197
    go_wp2
    go_ret
    exact ⟨rfl,rfl⟩
  · obtain rfl:s=⟨#[119,104,105,108,101]⟩:=bl_inj (h.trans (by decide))
    clear h
    go_enter Tryz.func197,Tryz.ntmps197
    go_wp2
    go_ret
    exact ⟨rfl,rfl⟩
  · obtain rfl:s=⟨#[115,101,110,100]⟩:=bl_inj (h.trans (by decide))
    clear h
    go_enter Tryz.func197,Tryz.ntmps197
    go_wp2
    go_ret
    exact ⟨rfl,rfl⟩
  · obtain rfl:s=⟨#[114,101,116,117,114,110]⟩:=bl_inj (h.trans (by decide))
    clear h
    go_enter Tryz.func197,Tryz.ntmps197
    go_wp2
    go_ret
    exact ⟨rfl,rfl⟩
set_option maxRecDepth 100000 in
set_option maxHeartbeats 1000000 in
theorem isMark_no (s:ByteArray) (h:bl s ∉ marksL) (w:World):Calls Tryz.prog 199 #[.string s] w fun e w'=>e=.returned (.bool false)∧w=w':=by
  have e0:(s.toList == [123])=false:=ne_lit h (by decide)
  have e1:(s.toList == [125])=false:=ne_lit h (by decide)
  have e2:(s.toList == [40])=false:=ne_lit h (by decide)
  have e3:(s.toList == [41])=false:=ne_lit h (by decide)
  have e4:(s.toList == [91])=false:=ne_lit h (by decide)
  have e5:(s.toList == [93])=false:=ne_lit h (by decide)
  have e6:(s.toList == [44])=false:=ne_lit h (by decide)
  have e7:(s.toList == [59])=false:=ne_lit h (by decide)
  have e8:(s.toList == [61])=false:=ne_lit h (by decide)
  have e9:(s.toList == [61,61])=false:=ne_lit h (by decide)
  have e10:(s.toList == [33,61])=false:=ne_lit h (by decide)
  have e11:(s.toList == [60])=false:=ne_lit h (by decide)
  have e12:(s.toList == [60,61])=false:=ne_lit h (by decide)
  have e13:(s.toList == [43])=false:=ne_lit h (by decide)
  have e14:(s.toList == [45])=false:=ne_lit h (by decide)
  have e15:(s.toList == [42])=false:=ne_lit h (by decide)
  have e16:(s.toList == [47])=false:=ne_lit h (by decide)
  have e17:(s.toList == [37])=false:=ne_lit h (by decide)
  have e18:(s.toList == [38])=false:=ne_lit h (by decide)
  have e19:(s.toList == [124])=false:=ne_lit h (by decide)
  have e20:(s.toList == [94])=false:=ne_lit h (by decide)
  have e21:(s.toList == [60,60])=false:=ne_lit h (by decide)
  have e22:(s.toList == [62,62])=false:=ne_lit h (by decide)
  have e23:(s.toList == [33])=false:=ne_lit h (by decide)
  have e24:(s.toList == [126])=false:=ne_lit h (by decide)
  clear h
  go_enter Tryz.func199,Tryz.ntmps199
  go_wp2
  go_ret
  exact ⟨rfl,rfl⟩
set_option maxRecDepth 100000 in
set_option maxHeartbeats 1000000 in
theorem isMark_yes (s:ByteArray) (h:bl s ∈ marksL) (w:World):Calls Tryz.prog 199 #[.string s] w fun e w'=>e=.returned (.bool true)∧w=w':=by
  simp only [marksL,mark1,mark2,List.map_cons,List.map_nil,List.cons_append,List.nil_append,List.mem_cons,List.not_mem_nil,or_false] at h
  rcases h with h | h | h | h | h | h | h | h | h | h | h | h | h | h | h | h | h | h | h | h | h | h | h | h | h
  · obtain rfl:s=⟨#[123]⟩:=bl_inj (h.trans (by decide))
    clear h
    go_enter Tryz.func199,Tryz.ntmps199
    go_wp2
    go_ret
    exact ⟨rfl,rfl⟩
  · obtain rfl:s=⟨#[125]⟩:=bl_inj (h.trans (by decide))
    clear h
    go_enter Tryz.func199,Tryz.ntmps199
    go_wp2
    go_ret
    exact ⟨rfl,rfl⟩
  · obtain rfl:s=⟨#[40]⟩:=bl_inj (h.trans (by decide))
    clear h
    go_enter Tryz.func199,Tryz.ntmps199
    go_wp2
    go_ret
    exact ⟨rfl,rfl⟩
  · obtain rfl:s=⟨#[41]⟩:=bl_inj (h.trans (by decide))
    clear h
    go_enter Tryz.func199,Tryz.ntmps199
    go_wp2
    go_ret
    exact ⟨rfl,rfl⟩
  · obtain rfl:s=⟨#[91]⟩:=bl_inj (h.trans (by decide))
    clear h
    go_enter Tryz.func199,Tryz.ntmps199
    go_wp2
    go_ret
    exact ⟨rfl,rfl⟩
  · obtain rfl:s=⟨#[93]⟩:=bl_inj (h.trans (by decide))
    clear h
    go_enter Tryz.func199,Tryz.ntmps199
    go_wp2
    go_ret
    exact ⟨rfl,rfl⟩
  · obtain rfl:s=⟨#[44]⟩:=bl_inj (h.trans (by decide))
    clear h
    go_enter Tryz.func199,Tryz.ntmps199
    go_wp2
    go_ret
    exact ⟨rfl,rfl⟩
  · obtain rfl:s=⟨#[59]⟩:=bl_inj (h.trans (by decide))
    clear h
    go_enter Tryz.func199,Tryz.ntmps199
    go_wp2
    go_ret
    exact ⟨rfl,rfl⟩
  · obtain rfl:s=⟨#[61]⟩:=bl_inj (h.trans (by decide))
    clear h
    go_enter Tryz.func199,Tryz.ntmps199
    go_wp2
    go_ret
    exact ⟨rfl,rfl⟩
  · obtain rfl:s=⟨#[60]⟩:=bl_inj (h.trans (by decide))
    clear h
    go_enter Tryz.func199,Tryz.ntmps199
    go_wp2
    go_ret
    exact ⟨rfl,rfl⟩
  · obtain rfl:s=⟨#[43]⟩:=bl_inj (h.trans (by decide))
    clear h
    go_enter Tryz.func199,Tryz.ntmps199
    go_wp2
    go_ret
    exact ⟨rfl,rfl⟩
  · obtain rfl:s=⟨#[45]⟩:=bl_inj (h.trans (by decide))
    clear h
    go_enter Tryz.func199,Tryz.ntmps199
    go_wp2
    go_ret
    exact ⟨rfl,rfl⟩
  · obtain rfl:s=⟨#[42]⟩:=bl_inj (h.trans (by decide))
    clear h
    go_enter Tryz.func199,Tryz.ntmps199
    go_wp2
    go_ret
    exact ⟨rfl,rfl⟩
  · obtain rfl:s=⟨#[47]⟩:=bl_inj (h.trans (by decide))
    clear h
    go_enter Tryz.func199,Tryz.ntmps199
    go_wp2
    go_ret
    exact ⟨rfl,rfl⟩
  · obtain rfl:s=⟨#[37]⟩:=bl_inj (h.trans (by decide))
    clear h
    go_enter Tryz.func199,Tryz.ntmps199
    go_wp2
    go_ret
    exact ⟨rfl,rfl⟩
  · obtain rfl:s=⟨#[38]⟩:=bl_inj (h.trans (by decide))
    clear h
    go_enter Tryz.func199,Tryz.ntmps199
    go_wp2
    go_ret
    exact ⟨rfl,rfl⟩
  · obtain rfl:s=⟨#[124]⟩:=bl_inj (h.trans (by decide))
    clear h
    go_enter Tryz.func199,Tryz.ntmps199
    go_wp2
    go_ret
    exact ⟨rfl,rfl⟩
  · obtain rfl:s=⟨#[94]⟩:=bl_inj (h.trans (by decide))
    clear h
    go_enter Tryz.func199,Tryz.ntmps199
    go_wp2
    go_ret
    exact ⟨rfl,rfl⟩
  · obtain rfl:s=⟨#[33]⟩:=bl_inj (h.trans (by decide))
    clear h
    go_enter Tryz.func199,Tryz.ntmps199
    go_wp2
    go_ret
    exact ⟨rfl,rfl⟩
  · obtain rfl:s=⟨#[126]⟩:=bl_inj (h.trans (by decide))
    clear h
    go_enter Tryz.func199,Tryz.ntmps199
    go_wp2
    go_ret
    exact ⟨rfl,rfl⟩
  · obtain rfl:s=⟨#[61,61]⟩:=bl_inj (h.trans (by decide))
    clear h
    go_enter Tryz.func199,Tryz.ntmps199
    go_wp2
    go_ret
    exact ⟨rfl,rfl⟩
  · obtain rfl:s=⟨#[33,61]⟩:=bl_inj (h.trans (by decide))
    clear h
    go_enter Tryz.func199,Tryz.ntmps199
    go_wp2
    go_ret
    exact ⟨rfl,rfl⟩
  · obtain rfl:s=⟨#[60,61]⟩:=bl_inj (h.trans (by decide))
    clear h
    go_enter Tryz.func199,Tryz.ntmps199
    go_wp2
    go_ret
    exact ⟨rfl,rfl⟩
  · obtain rfl:s=⟨#[60,60]⟩:=bl_inj (h.trans (by decide))
    clear h
    go_enter Tryz.func199,Tryz.ntmps199
    go_wp2
    go_ret
    exact ⟨rfl,rfl⟩
  · obtain rfl:s=⟨#[62,62]⟩:=bl_inj (h.trans (by decide))
    clear h
    go_enter Tryz.func199,Tryz.ntmps199
    go_wp2
    go_ret
    exact ⟨rfl,rfl⟩
end Go.Proofs.YtlpdjfimefjmcaaGreatDoor.Q
namespace Go.Proofs.YtlpdjfimefjmcaaGreatDoor.Q
open Go
theorem foldl_bl (l:List UInt8) (acc:Nat):(l.map UInt8.toNat).foldl (fun n d=>10 * n+(d - 48)) acc=l.foldl (fun n c=>10 * n+(c.toNat - 48)) acc:=by
  rw [List.foldl_map]
theorem foldl_ge8 (l:List UInt8) (n:Nat):n≤l.foldl (fun n c=>10 * n+(c.toNat - 48)) n:=by
  rw [← foldl_bl];exact foldl_ge _ _
theorem parseM_digits:∀ (l:List UInt8) (acc:Nat),(∀ c ∈ l,48≤c.toNat∧c.toNat≤57)→acc≤18446744073709551615 →
    Lib.parseUintM 18446744073709551615 acc l=if l.foldl (fun n c=>10 * n+(c.toNat - 48)) acc≤18446744073709551615 then .ok (l.foldl (fun n c=>10 * n+(c.toNat - 48)) acc) else .range
  | [],acc,_,h=>by rw [Lib.parseUintM,List.foldl_nil,if_pos h]
  | c :: r,acc,hd,h=>by
    have hc:=hd c (List.mem_cons_self ..)
    have hg:=foldl_ge8 r (10 * acc+(c.toNat - 48))
    rw [Lib.parseUintM,if_pos hc,List.foldl_cons]
    by_cases h1:1844674407370955162≤acc
    · rw [if_pos h1,if_neg (by omega)]
    · rw [if_neg h1]
      by_cases h2:18446744073709551615<acc * 10+(c.toNat - 48)
      · rw [if_pos h2,if_neg (by omega)]
      · rw [if_neg h2,Nat.mul_comm acc 10,parseM_digits r _ (fun x hx=>hd x (List.mem_cons_of_mem _ hx)) (by omega)]
theorem parse_digits (l:List UInt8) (h0:l ≠ []) (hd:∀ x ∈ l.map UInt8.toNat,digitB x=true) :
    Lib.parseIntB 64 l=if valD (l.map UInt8.toNat)≤most then .ok (valD (l.map UInt8.toNat):Nat) else .range:=by
  have hd':∀ c ∈ l,48≤c.toNat∧c.toNat≤57:=fun c hc=>digit_range (hd _ (List.mem_map_of_mem hc))
  have hm:=parseM_digits l 0 hd' (by omega)
  rw [← foldl_bl] at hm
  change _=if valD (l.map UInt8.toNat)≤_ then Lib.NumEnd.ok (valD (l.map UInt8.toNat)) else _ at hm
  cases l with
  | nil=>exact absurd rfl h0
  | cons c r =>
    have hc:=hd' c (List.mem_cons_self ..)
    rw [Lib.parseIntB]
    simp only [show ¬ c.toNat=43 by omega,show ¬ c.toNat=45 by omega,or_false,if_false,not_false_eq_true,true_and,false_and]
    rw [Lib.parseUintB,if_neg (by simp),show (2 ^ 64 - 1:Nat)=18446744073709551615 by decide,hm]
    generalize valD ((c :: r).map UInt8.toNat)=V
    by_cases h1:V≤18446744073709551615
    · rw [if_pos h1]
      by_cases h2:V≤most
      · simp only [if_pos h2,show ¬ 2 ^ (64 - 1)≤V by simp only [most] at h2;omega,if_false]
      · simp only [if_neg h2,show 2 ^ (64 - 1)≤V by simp only [most] at h2;omega,if_true]
    · rw [if_neg h1,if_neg (by simp only [most];omega)]
end Go.Proofs.YtlpdjfimefjmcaaGreatDoor.Q
