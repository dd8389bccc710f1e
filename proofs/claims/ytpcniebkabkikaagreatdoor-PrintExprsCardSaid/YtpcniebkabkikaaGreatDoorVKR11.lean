/- Plain: the pieces of a text are short; bytes are bytes. Plain: where the expression that ends with a term begins: the number of terms that make one value, from the end on. Contracts of the document's own tests of keywords and marks: for every text and every memory. The document's own word and value: for every text and every memory. The document's own words of a text: for every text and every memor -/
import Derived.Test.YtpcniebkabkikaaGreatDoorVKR10
import Derived.Test.YtpcniebkabkikaaGreatDoorVKR1
import Derived.Below
import Derived.Laws.OwnMore
import Derived.RegionTactic
import Derived.Test.YtpcniebkabkikaaGreatDoorVKR2
import Derived.OwnWalk
import Derived.Outline
import Derived.Test.YtpcniebkabkikaaGreatDoorVKR7
import Derived.Laws.IdiomStrings
namespace Go.Proofs.YtpcniebkabkikaaGreatDoor
open Go
open Go.Proofs.Syn (K Ex Tm opLv opMark unMark opLv_le)
theorem bl_sb {l:List Nat} (h:∀ c ∈ l,c<256):bl (sb l)=l:=by
  unfold bl sb
  show (l.map UInt8.ofNat).map UInt8.toNat=l
  rw [List.map_map]
  refine (List.map_congr_left fun c hc=>?_).trans (List.map_id l)
  show (UInt8.ofNat c).toNat=c
  rw [UInt8.toNat_ofNat']
  have:=h c hc
  omega
theorem name_lt {c:Nat} (h:nameB c=true):c<256:=by
  unfold nameB letterB digitB at h
  simp only [Bool.or_eq_true,Bool.and_eq_true,decide_eq_true_eq,beq_iff_eq] at h
  omega
theorem pn_lt {s:List Nat} (h:PN s):∀ c ∈ s,c<256:=by
  have hw:=h.word
  cases s with
  | nil=>exact fun _ h=>absurd h (by simp)
  | cons x t =>
    by_cases hl:letterB x=true
    · rw [wordL,if_pos hl] at hw
      simp only at hw
      injection hw with h1 _
      have hall:(x :: t).takeWhile nameB=x :: t:=by
        have:=takeWhile_is_take (p:=nameB) (x :: t)
        rw [h1,List.take_length] at this
        exact this.symm
      exact fun c hc=>name_lt (mem_takeWhile (x :: t) c (by rw [hall];exact hc))
    · rw [wordL,if_neg hl] at hw
      split at hw
      · injection hw with _ h2;cases h2
      · split at hw
        · injection hw with _ h2;cases h2
        · split at hw
          · injection hw with _ h2;cases h2
          · injection hw with _ h2;cases h2
theorem dgN_lt (v:Nat):∀ c ∈ dgN v,c<256:=fun c hc=>by have:=digit_range ((dgN_all v v (Nat.le_refl _)).1 c hc);omega
theorem mark_lt:∀ o:Fin 18,(∀ c ∈ opMark o.val,c<256)∧∀ c ∈ unMark o.val,c<256:=by decide
theorem exText_lt:∀ (e:Ex) (lv:Nat),e.Wf→e.All PN (QN dgN)→∀ c ∈ exText dgN e lv,c<256
  | .num v,lv,_,h=>fun c hc=>dgN_lt v c (by simpa [exText] using hc)
  | .nm s,lv,_,h=>fun c hc=>pn_lt h c (by simpa [exText] using hc)
  | .idx s e,lv,hw,h=>fun c hc=>by
    have h2:=exText_lt e 0 hw h.2
    have h1:=pn_lt h.1
    simp only [exText,List.mem_append,List.mem_cons,List.not_mem_nil,or_false] at hc
    rcases hc with hc | hc | hc | hc
    · exact h1 c hc
    · omega
    · exact h2 c hc
    · omega
  | .un o e,lv,hw,h=>fun c hc=>by
    have h1:=(mark_lt ⟨o,by have:=hw.2.1;omega⟩).2
    have h2:=exText_lt e 6 hw.2.2 h
    simp only [exText,List.mem_append] at hc
    rcases hc with hc | hc
    · exact h1 c hc
    · exact h2 c hc
  | .bin o l r,lv,hw,h=>fun c hc=>by
    have h1:=(mark_lt ⟨o,by have:=hw.2.1;omega⟩).1
    have h2:=exText_lt l (opLv o) hw.2.2.1 h.1
    have h3:=exText_lt r (opLv o+1) hw.2.2.2 h.2
    rw [exText] at hc
    split at hc <;> simp only [List.mem_append,List.mem_cons,List.not_mem_nil,or_false] at hc
    · rcases hc with hc | (hc | hc | hc | hc | hc) | hc <;> first | omega | exact h1 c hc | exact h2 c hc | exact h3 c hc
    · rcases hc with hc | hc | hc | hc | hc <;> first | omega | exact h1 c hc | exact h2 c hc | exact h3 c hc
theorem exZ_lt {l:List TmZ} (hv:∀ t ∈ l,t.value≤9223372036854775807):∀ c ∈ exZ l,c<256:=by
  unfold exZ
  split
  · rename_i hw
    obtain ⟨e,⟨a,b⟩,_,d,_⟩:=whole_tree hw hv
    rw [d]
    exact exText_lt e 0 a b
  · exact fun _ h=>absurd h (by simp)
theorem runB_small:∀ (f:Nat) (row:List Pt) (rl:List Tm) (out Q:List (List Nat)),runB dgN f row rl out=some Q→(∀ p ∈ row,p.1.length≤1000)→(∀ t ∈ rl,∀ p ∈ ptsOf dgN t,p.1.length≤1000)→(∀ s ∈ out,s.length≤1000)→∀ s ∈ Q,s.length≤1000
  | 0,_,_,_,_,h,_,_,_=>by cases h
  | f+1,[],_,out,Q,h,_,_,ho=>by
    have h:some out=some Q:=h
    injection h with h;subst h;exact ho
  | f+1,p :: row,rl,out,Q,h,hr,ht,ho=>by
    have hr2:∀ p ∈ row,p.1.length≤1000:=fun x hx=>hr x (List.mem_cons_of_mem _ hx)
    by_cases hp:p.1=[]
    · cases rl with
      | nil =>
        have h0:runB dgN (f+1) (p :: row) [] out=none:=by
          show (if p.1 ≠ [] then _ else _)=_
          rw [if_neg (by simp [hp])]
        rw [h0] at h;cases h
      | cons t rl =>
        have h1:runB dgN f ((brT dgN p.2 t).reverse++row) rl out=some Q:=by
          rw [← h]
          show _=(if p.1 ≠ [] then _ else _)
          rw [if_neg (by simp [hp])]
        refine runB_small f _ rl out Q h1 (fun x hx=>?_) (fun t' h'=>ht t' (List.mem_cons_of_mem _ h')) ho
        rcases List.mem_append.1 hx with hx | hx
        · have hx:=List.mem_reverse.1 hx
          have hpt:=ht t (List.mem_cons_self ..)
          unfold brT at hx
          split at hx
          · exact hpt x hx
          · rcases List.mem_cons.1 hx with rfl | hx
            · simp
            · rcases List.mem_append.1 hx with hx | hx
              · exact hpt x hx
              · obtain rfl:=List.mem_singleton.1 hx
                simp
        · exact hr2 x hx
    · have h1:runB dgN f row rl (out++[p.1])=some Q:=by
        rw [← h]
        show _=(if p.1 ≠ [] then _ else _)
        rw [if_pos hp]
      refine runB_small f row rl _ Q h1 hr2 ht (fun s hs=>?_)
      rcases List.mem_append.1 hs with hs | hs
      · exact ho s hs
      · obtain rfl:=List.mem_singleton.1 hs
        exact hr p (List.mem_cons_self ..)
theorem pts_small {t:TmZ} (hr:rightZ t=true) (hv:t.value≤9223372036854775807):∀ p ∈ ptsOf dgN (tmN t),p.1.length≤1000:=by
  have ok:=tm_ok hr hv
  have hk:=right_k hr
  intro p hp
  unfold ptsOf at hp
  have hm:∀ n,n≤17→(opMark n).length≤1000∧(unMark n).length≤1000:=fun n hn=>by have:=mark_len ⟨n,by omega⟩;simp only at this;omega
  by_cases h1:(tmN t).kind=1
  · rw [if_pos h1] at hp
    obtain rfl:=List.mem_singleton.1 hp
    have:=dec_len0 20 (tmN t).value (by decide) (by have:(tmN t).value=t.value.toNat:=rfl;omega)
    show (dgN _).length≤1000
    omega
  rw [if_neg h1] at hp
  by_cases h2:(tmN t).kind=2
  · rw [if_pos h2] at hp
    obtain rfl:=List.mem_singleton.1 hp
    have:=(ok.two h2).1.name
    show (tmN t).name.length≤1000
    omega
  rw [if_neg h2] at hp
  by_cases h3:(tmN t).kind=3
  · rw [if_pos h3] at hp
    have:=(ok.three h3).1.name
    simp only [List.mem_cons,List.not_mem_nil,or_false] at hp
    rcases hp with rfl | rfl | rfl | rfl
    · show (tmN t).name.length≤1000;omega
    all_goals simp
  rw [if_neg h3] at hp
  by_cases h4:(tmN t).kind=4
  · rw [if_pos h4] at hp
    have:=(ok.four h4).2.1
    have hh:=hm (tmN t).value this
    simp only [List.mem_cons,List.not_mem_nil,or_false] at hp
    rcases hp with rfl | rfl
    · exact hh.2
    · simp
  rw [if_neg h4] at hp
  have h5:(tmN t).kind=5:=by have e:(tmN t).kind=t.kind.toNat:=rfl;omega
  have:=(ok.five h5).2.1
  have hh:=hm (tmN t).value (by omega)
  simp only [List.mem_cons,List.not_mem_nil,or_false] at hp
  rcases hp with rfl | rfl | rfl | rfl | rfl
  · simp
  · simp
  · exact hh.1
  · simp
  · simp
end Go.Proofs.YtpcniebkabkikaaGreatDoor
namespace Go.Proofs.YtpcniebkabkikaaGreatDoor
open Go
open Go.Proofs.Syn (K Ex Tm opLv opMark unMark opLv_le)
def wtT (t:Tm):Nat:=if t.kind=5 then 2 else if t.kind=3 ∨ t.kind=4 then 1 else 0
theorem wtT_tm {t:TmZ} (h:rightZ t=true):wtT (tmN t)=wantZ t:=by
  unfold wtT wantZ tmN
  simp only
  rcases right_k h with h | h | h | h | h <;> rw [h] <;> rfl
def bgF:List Tm→Nat→Option Nat
  | [],_=>none
  | t :: l,n=>if n - 1+wtT t=0 then some 1 else (bgF l (n - 1+wtT t)).map (·+1)
def bgR (k n:Nat) (r:List Tm):Option Nat:=if n=0 then some k else (bgF r n).map (·+k)
theorem bgR_add {r:List Tm} {a b n:Nat}:(bgR a n r).map (·+b)=bgR (a+b) n r:=by
  unfold bgR
  split
  · rfl
  · rw [Option.map_map];congr 1;funext x;show x+a+b=x+(a+b);omega
theorem bgF_cons (t:Tm) (r:List Tm) (n:Nat):bgF (t :: r) (n+1)=bgR 1 (n+wtT t) r:=rfl
theorem bgF_flat:∀ (e:Ex) (r:List Tm) (n:Nat),bgF (e.flat.reverse++r) (n+1)=bgR e.flat.length n r
  | .num v,r,n=>by
    show bgF (_ :: r) (n+1)=_
    rw [bgF_cons];rfl
  | .nm s,r,n=>by
    show bgF (_ :: r) (n+1)=_
    rw [bgF_cons];rfl
  | .idx s e,r,n=>by
    rw [Ex.flat,List.reverse_append,List.length_append]
    show bgF (⟨3,0,s⟩ :: (e.flat.reverse++r)) (n+1)=_
    rw [bgF_cons,show wtT ⟨3,0,s⟩=1 from rfl]
    show (if n+1=0 then _ else (bgF (e.flat.reverse++r) (n+1)).map (·+1))=_
    rw [if_neg (by omega),bgF_flat e,bgR_add];rfl
  | .un o e,r,n=>by
    rw [Ex.flat,List.reverse_append,List.length_append]
    show bgF (⟨4,o,[]⟩ :: (e.flat.reverse++r)) (n+1)=_
    rw [bgF_cons,show wtT ⟨4,o,[]⟩=1 from rfl]
    show (if n+1=0 then _ else (bgF (e.flat.reverse++r) (n+1)).map (·+1))=_
    rw [if_neg (by omega),bgF_flat e,bgR_add];rfl
  | .bin o a b,r,n=>by
    rw [Ex.flat,List.reverse_append,List.reverse_append,List.length_append,List.length_append,List.append_assoc,List.append_assoc]
    show bgF (⟨5,o,[]⟩ :: (b.flat.reverse++(a.flat.reverse++r))) (n+1)=_
    rw [bgF_cons,show wtT ⟨5,o,[]⟩=2 from rfl]
    show (if n+2=0 then _ else (bgF (b.flat.reverse++(a.flat.reverse++r)) (n+1+1)).map (·+1))=_
    rw [if_neg (by omega),bgF_flat b,bgR_add]
    show (if n+1=0 then _ else (bgF (a.flat.reverse++r) (n+1)).map (·+(b.flat.length+1)))=_
    rw [if_neg (by omega),bgF_flat a,bgR_add,Nat.add_assoc];rfl
end Go.Proofs.YtpcniebkabkikaaGreatDoor
namespace Go.Proofs.YtpcniebkabkikaaGreatDoor
open Go Go.RowKit
theorem cells_new (w:World) (A:Array Value) (T:TypeId) (k:Nat):(w.alloc (.cells A T)).cell? ⟨w.heap.size,k,none⟩=A[k]?:=by
  rw [World.cell?_alloc_new]
theorem list_eq {x y:ByteArray} (h:(x.toList == y.toList)=true):x=y:=by
  have:=beq_iff_eq.1 h
  rw [Lib.toList_data,Lib.toList_data] at this
  apply ByteArray.ext
  exact Array.ext' this
theorem list_ne {x y:ByteArray} (h:(x.toList == y.toList)=false):x ≠ y:=by
  intro e
  subst e
  simp at h
theorem none_yet {L:List ByteArray} {s:ByteArray} {k:Nat} (h:∀ i,i<k→L.getD i ByteArray.empty ≠ s) (hk:L.getD k ByteArray.empty ≠ s):∀ i,i<k+1→L.getD i ByteArray.empty ≠ s:=by
  intro i hi
  rcases Nat.lt_or_ge i k with h1 | h1
  · exact h i h1
  · obtain rfl:i=k:=by omega
    exact hk
theorem found {L:List ByteArray} {M:List (List Nat)} {s:ByteArray} {k:Nat} (hk:k<L.length) (hM:L.map bl=M) (h:L.getD k ByteArray.empty=s):bl s ∈ M:=by
  subst hM;subst h
  rw [List.getD_eq_getElem?_getD,List.getElem?_eq_getElem hk]
  exact List.mem_map_of_mem (List.getElem_mem hk)
theorem not_found {L:List ByteArray} {M:List (List Nat)} {s:ByteArray} (hM:L.map bl=M) (h:∀ i,i<L.length→L.getD i ByteArray.empty ≠ s):bl s ∉ M:=by
  subst hM
  intro hm
  obtain ⟨x,hx,he⟩:=List.mem_map.1 hm
  obtain ⟨i,hi,rfl⟩:=List.getElem_of_mem hx
  refine h i hi ?_
  rw [List.getD_eq_getElem?_getD,List.getElem?_eq_getElem hi]
  exact bl_inj he
def keywords:List ByteArray:=[⟨#[112,114,105,110,99,105,112,97,108]⟩,⟨#[103,108,111,98,97,108]⟩,⟨#[97,114,114,97,121]⟩,⟨#[99,104,97,110,110,101,108]⟩,⟨#[102,117,110,99]⟩,⟨#[118,97,114]⟩,⟨#[105,102]⟩,⟨#[101,108,115,101]⟩,⟨#[119,104,105,108,101]⟩,⟨#[115,101,110,100]⟩,⟨#[114,101,116,117,114,110]⟩]
theorem keywords_bl:keywords.map bl=keysL:=by decide
theorem keywords_cell (w:World) (T:TypeId):∀ k,k<11→(w.alloc (.cells #[.string ⟨#[112,114,105,110,99,105,112,97,108]⟩,.string ⟨#[103,108,111,98,97,108]⟩,.string ⟨#[97,114,114,97,121]⟩,.string ⟨#[99,104,97,110,110,101,108]⟩,.string ⟨#[102,117,110,99]⟩,.string ⟨#[118,97,114]⟩,.string ⟨#[105,102]⟩,.string ⟨#[101,108,115,101]⟩,.string ⟨#[119,104,105,108,101]⟩,.string ⟨#[115,101,110,100]⟩,.string ⟨#[114,101,116,117,114,110]⟩] T)).cell? ⟨w.heap.size,k,none⟩=some (.string (keywords.getD k ByteArray.empty)):=by
  intro k hk
  rw [cells_new]
  match k,hk with
  | 0,_=>rfl
  | 1,_=>rfl
  | 2,_=>rfl
  | 3,_=>rfl
  | 4,_=>rfl
  | 5,_=>rfl
  | 6,_=>rfl
  | 7,_=>rfl
  | 8,_=>rfl
  | 9,_=>rfl
  | 10,_=>rfl
  | j+11,h=>exact absurd h (by omega)
set_option maxRecDepth 100000 in
set_option maxHeartbeats 1000000 in
theorem keyword_any (s:ByteArray) (w:World):Calls Tryz.prog 247 #[.string s] w fun e w'=>e=.returned (.bool (decide (bl s ∈ keysL)))∧Below w.heap.size w w':=by
  have hc:=keywords_cell w 9
  have hB:Below w.heap.size w (w.alloc (.cells #[.string ⟨#[112,114,105,110,99,105,112,97,108]⟩,.string ⟨#[103,108,111,98,97,108]⟩,.string ⟨#[97,114,114,97,121]⟩,.string ⟨#[99,104,97,110,110,101,108]⟩,.string ⟨#[102,117,110,99]⟩,.string ⟨#[118,97,114]⟩,.string ⟨#[105,102]⟩,.string ⟨#[101,108,115,101]⟩,.string ⟨#[119,104,105,108,101]⟩,.string ⟨#[115,101,110,100]⟩,.string ⟨#[114,101,116,117,114,110]⟩] 9)):=(Below.refl _ w).alloc (Nat.le_refl _) _
  go_enter Tryz.func247,Tryz.ntmps247
  go_wp2
  generalize (w.alloc (.cells #[.string ⟨#[112,114,105,110,99,105,112,97,108]⟩,.string ⟨#[103,108,111,98,97,108]⟩,.string ⟨#[97,114,114,97,121]⟩,.string ⟨#[99,104,97,110,110,101,108]⟩,.string ⟨#[102,117,110,99]⟩,.string ⟨#[118,97,114]⟩,.string ⟨#[105,102]⟩,.string ⟨#[101,108,115,101]⟩,.string ⟨#[119,104,105,108,101]⟩,.string ⟨#[115,101,110,100]⟩,.string ⟨#[114,101,116,117,114,110]⟩] 9))=W at *
  have HC:=Lib.hid hc
  have HB:=Lib.hid hB
  clear hc hB
  go_loop [4] (fun i=>∃ k:Nat,k≤11∧i=.int .i64 k∧Hid (∀ i,i<k→keywords.getD i ByteArray.empty ≠ s)) (fun i=>11 - (intOf i).toNat)
  case atStart=>exact ⟨0,Nat.zero_le _,rfl,Lib.hid (fun i hi=>absurd hi (Nat.not_lt_zero _))⟩
  case round =>
    obtain ⟨k,hk,rfl,H⟩:=hrel
    by_cases hlt:k<11
    · have hcell:=HC.out k hlt
      obtain ⟨x,hx⟩:∃ x,keywords.getD k ByteArray.empty=x:=⟨_,rfl⟩
      rw [hx] at hcell
      have HX:=Lib.hid hx
      clear hx
      cases he:(x.toList == s.toList)
      · have HN:=Lib.hid (none_yet H.out (by rw [HX.out];exact list_ne he))
        go_wp2
        go_round
        case rel=>exact ⟨k+1,by omega,by go_num,HN⟩
        case measure=>simp [intOf];omega
      · have HF:=Lib.hid (found (L:=keywords) hlt keywords_bl (HX.out.trans (list_eq he)))
        go_wp2
        go_ret
        exact ⟨ret_bool (by rw [decide_eq_true HF.out]),HB.out⟩
    · have hk':k=keywords.length:=by
        have:keywords.length=11:=rfl
        omega
      have HK:=Lib.hid (not_found keywords_bl (fun i hi=>H.out i (by omega)))
      clear hk'
      go_wp2
      go_ret
      exact ⟨ret_bool (by rw [decide_eq_false HK.out]),HB.out⟩
def marksR:List (List Nat):=[[123],[125],[40],[41],[91],[93],[44],[59],[61],[61,61],[33,61],[60],[60,61],[43],[45],[42],[47],[37],[38],[124],[94],[60,60],[62,62],[33],[126]]
theorem marksR_mem (l:List Nat):l ∈ marksR ↔ l ∈ marksL:=⟨fun h=>(show ∀ x ∈ marksR,x ∈ marksL from by decide) l h,fun h=>(show ∀ x ∈ marksL,x ∈ marksR from by decide) l h⟩
def marks:List ByteArray:=[⟨#[123]⟩,⟨#[125]⟩,⟨#[40]⟩,⟨#[41]⟩,⟨#[91]⟩,⟨#[93]⟩,⟨#[44]⟩,⟨#[59]⟩,⟨#[61]⟩,⟨#[61,61]⟩,⟨#[33,61]⟩,⟨#[60]⟩,⟨#[60,61]⟩,⟨#[43]⟩,⟨#[45]⟩,⟨#[42]⟩,⟨#[47]⟩,⟨#[37]⟩,⟨#[38]⟩,⟨#[124]⟩,⟨#[94]⟩,⟨#[60,60]⟩,⟨#[62,62]⟩,⟨#[33]⟩,⟨#[126]⟩]
theorem marks_bl:marks.map bl=marksR:=by decide
theorem marks_cell (w:World) (T:TypeId):∀ k,k<25→(w.alloc (.cells #[.string ⟨#[123]⟩,.string ⟨#[125]⟩,.string ⟨#[40]⟩,.string ⟨#[41]⟩,.string ⟨#[91]⟩,.string ⟨#[93]⟩,.string ⟨#[44]⟩,.string ⟨#[59]⟩,.string ⟨#[61]⟩,.string ⟨#[61,61]⟩,.string ⟨#[33,61]⟩,.string ⟨#[60]⟩,.string ⟨#[60,61]⟩,.string ⟨#[43]⟩,.string ⟨#[45]⟩,.string ⟨#[42]⟩,.string ⟨#[47]⟩,.string ⟨#[37]⟩,.string ⟨#[38]⟩,.string ⟨#[124]⟩,.string ⟨#[94]⟩,.string ⟨#[60,60]⟩,.string ⟨#[62,62]⟩,.string ⟨#[33]⟩,.string ⟨#[126]⟩] T)).cell? ⟨w.heap.size,k,none⟩=some (.string (marks.getD k ByteArray.empty)):=by
  intro k hk
  rw [cells_new]
  match k,hk with
  | 0,_=>rfl
  | 1,_=>rfl
  | 2,_=>rfl
  | 3,_=>rfl
  | 4,_=>rfl
  | 5,_=>rfl
  | 6,_=>rfl
  | 7,_=>rfl
  | 8,_=>rfl
  | 9,_=>rfl
  | 10,_=>rfl
  | 11,_=>rfl
  | 12,_=>rfl
  | 13,_=>rfl
  | 14,_=>rfl
  | 15,_=>rfl
  | 16,_=>rfl
  | 17,_=>rfl
  | 18,_=>rfl
  | 19,_=>rfl
  | 20,_=>rfl
  | 21,_=>rfl
  | 22,_=>rfl
  | 23,_=>rfl
  | 24,_=>rfl
  | j+25,h=>exact absurd h (by omega)
set_option maxRecDepth 100000 in
set_option maxHeartbeats 1000000 in
theorem mark_any (s:ByteArray) (w:World):Calls Tryz.prog 248 #[.string s] w fun e w'=>e=.returned (.bool (decide (bl s ∈ marksR)))∧Below w.heap.size w w':=by
  have hc:=marks_cell w 9
  have hB:Below w.heap.size w (w.alloc (.cells #[.string ⟨#[123]⟩,.string ⟨#[125]⟩,.string ⟨#[40]⟩,.string ⟨#[41]⟩,.string ⟨#[91]⟩,.string ⟨#[93]⟩,.string ⟨#[44]⟩,.string ⟨#[59]⟩,.string ⟨#[61]⟩,.string ⟨#[61,61]⟩,.string ⟨#[33,61]⟩,.string ⟨#[60]⟩,.string ⟨#[60,61]⟩,.string ⟨#[43]⟩,.string ⟨#[45]⟩,.string ⟨#[42]⟩,.string ⟨#[47]⟩,.string ⟨#[37]⟩,.string ⟨#[38]⟩,.string ⟨#[124]⟩,.string ⟨#[94]⟩,.string ⟨#[60,60]⟩,.string ⟨#[62,62]⟩,.string ⟨#[33]⟩,.string ⟨#[126]⟩] 9)):=(Below.refl _ w).alloc (Nat.le_refl _) _
  go_enter Tryz.func248,Tryz.ntmps248
  go_wp2
  generalize (w.alloc (.cells #[.string ⟨#[123]⟩,.string ⟨#[125]⟩,.string ⟨#[40]⟩,.string ⟨#[41]⟩,.string ⟨#[91]⟩,.string ⟨#[93]⟩,.string ⟨#[44]⟩,.string ⟨#[59]⟩,.string ⟨#[61]⟩,.string ⟨#[61,61]⟩,.string ⟨#[33,61]⟩,.string ⟨#[60]⟩,.string ⟨#[60,61]⟩,.string ⟨#[43]⟩,.string ⟨#[45]⟩,.string ⟨#[42]⟩,.string ⟨#[47]⟩,.string ⟨#[37]⟩,.string ⟨#[38]⟩,.string ⟨#[124]⟩,.string ⟨#[94]⟩,.string ⟨#[60,60]⟩,.string ⟨#[62,62]⟩,.string ⟨#[33]⟩,.string ⟨#[126]⟩] 9))=W at *
  have HC:=Lib.hid hc
  have HB:=Lib.hid hB
  clear hc hB
  go_loop [4] (fun i=>∃ k:Nat,k≤25∧i=.int .i64 k∧Hid (∀ i,i<k→marks.getD i ByteArray.empty ≠ s)) (fun i=>25 - (intOf i).toNat)
  case atStart=>exact ⟨0,Nat.zero_le _,rfl,Lib.hid (fun i hi=>absurd hi (Nat.not_lt_zero _))⟩
  case round =>
    obtain ⟨k,hk,rfl,H⟩:=hrel
    by_cases hlt:k<25
    · have hcell:=HC.out k hlt
      obtain ⟨x,hx⟩:∃ x,marks.getD k ByteArray.empty=x:=⟨_,rfl⟩
      rw [hx] at hcell
      have HX:=Lib.hid hx
      clear hx
      cases he:(x.toList == s.toList)
      · have HN:=Lib.hid (none_yet H.out (by rw [HX.out];exact list_ne he))
        go_wp2
        go_round
        case rel=>exact ⟨k+1,by omega,by go_num,HN⟩
        case measure=>simp [intOf];omega
      · have HF:=Lib.hid (found (L:=marks) hlt marks_bl (HX.out.trans (list_eq he)))
        go_wp2
        go_ret
        exact ⟨ret_bool (by rw [decide_eq_true HF.out]),HB.out⟩
    · have hk':k=marks.length:=by
        have:marks.length=25:=rfl
        omega
      have HK:=Lib.hid (not_found marks_bl (fun i hi=>H.out i (by omega)))
      clear hk'
      go_wp2
      go_ret
      exact ⟨ret_bool (by rw [decide_eq_false HK.out]),HB.out⟩
theorem mark_any' (s:ByteArray) (w:World):Calls Tryz.prog 248 #[.string s] w fun e w'=>e=.returned (.bool (decide (bl s ∈ marksL)))∧Below w.heap.size w w':=by
  have:=mark_any s w
  simpa only [marksR_mem] using this
end Go.Proofs.YtpcniebkabkikaaGreatDoor
namespace Go.Proofs.YtpcniebkabkikaaGreatDoor
open Go Go.RowKit
theorem bl_at (s:ByteArray) (a k:Nat) (h:a+k<s.size):((bl s).drop a)[k]?=some (s[a+k]).toNat:=by
  rw [List.getElem?_drop];exact bl_get s (a+k) h
theorem bl_cut (s:ByteArray) (a n:Nat):bl (s.extract a (a+n))=((bl s).drop a).take n:=by
  rw [bl_extract,List.drop_take,show a+n - a=n by omega]
theorem head_at (s:ByteArray) (a:Nat) (h:a<s.size):(bl s).drop a=(s[a]).toNat :: (bl s).drop (a+1):=by
  have h1:a<(bl s).length:=by rw [bl_length];exact h
  have h2:=bl_get s a h
  rw [List.getElem?_eq_getElem h1] at h2
  rw [List.drop_eq_getElem_cons h1,Option.some.inj h2]
theorem run_stop_len {p:Nat→Bool} {s:ByteArray} {a k:Nat} (h:∀ x ∈ ((bl s).drop a).take k,p x=true) (hk:a+k=s.size):(((bl s).drop a).takeWhile p).length=k:=by
  have hl:((bl s).drop a).length=k:=by rw [List.length_drop,bl_length];omega
  rw [← hl] at h ⊢
  exact run_end _ h
def WordRes (l:List Nat) (W:World) (e:Ending) (W':World):Prop:=e=.returned (.tuple #[.int .i64 (((wordL l).1:Nat):Int),.int .i64 (((wordL l).2:Nat):Int)])∧Below W.heap.size W W'
theorem ret_two {a b c d:Int} (h1:a=c) (h2:b=d):Ending.returned (.tuple #[.int .i64 a,.int .i64 b])=.returned (.tuple #[.int .i64 c,.int .i64 d]):=by rw [h1,h2]
set_option maxRecDepth 100000 in
set_option maxHeartbeats 1000000 in
theorem word_letter (s:ByteArray) (a:Nat) (ha:a<s.size) (hs:s.size≤9223372036854775800) (hl:letterB (s[a]).toNat=true) (w:World):Calls Tryz.prog 211 #[.string s,.int .i64 (a:Int)] w (WordRes ((bl s).drop a) w):=by
  have hw:=wordL_letter (r:=(bl s).drop (a+1)) hl
  rw [← head_at s a ha] at hw
  have h0:=Lib.hid (fun W=>hl ▸ letter_any (s[a]).toNat W)
  have HW:=Lib.hid hw
  clear hl hw
  go_enter Tryz.func211,Tryz.ntmps211
  go_wp2_with (go_at_call 245;refine (h0.out _).mono ?_;rintro e w' ⟨rfl,rfl⟩)
  go_loop [6] (fun i=>∃ k:Nat,a+k≤s.size∧i=.int .i64 k∧Hid (∀ x ∈ ((bl s).drop a).take k,nameB x=true)) (fun i=>s.size - a - (intOf i).toNat)
  case atStart=>exact ⟨0,by omega,rfl,Lib.hid (by simp)⟩
  case round =>
    obtain ⟨k,hk,rfl,H⟩:=hrel
    by_cases hlt:a+k<s.size
    · have hb:=Lib.hid (bl_at s a k hlt)
      have hlt':(a:Int)+(k:Int)<(s.size:Int):=by omega
      have hti:((a:Int)+(k:Int)).toNat=a+k:=by omega
      cases hL:letterB (s[a+k]).toNat
      · cases hD:digitB (s[a+k]).toNat
        · have hL1:=Lib.hid (fun W=>hL ▸ letter_any (s[a+k]).toNat W)
          have hD1:=Lib.hid (fun W=>hD ▸ digit_any (s[a+k]).toNat W)
          have HN:=Lib.hid (run_stop _ k H.out _ hb.out (by unfold nameB;rw [hL,hD];rfl))
          clear hL hD H
          have hkw:=keyword_any (s.extract a (a+k)) w
          rw [bl_cut] at hkw
          have j1:(a:Int)≤(a:Int)+(k:Int):=by omega
          have j2:(a:Int)+(k:Int)≤(s.size:Int):=by omega
          have hwk:(wordL ((bl s).drop a)).1=k:=by rw [HW.out];exact HN.out
          have hw2:(wordL ((bl s).drop a)).2=if ((bl s).drop a).take k ∈ keysL then 2 else 1:=by rw [HW.out];simp only;rw [HN.out]
          have HWK:=Lib.hid hwk
          have HW2:=Lib.hid hw2
          clear hwk hw2 HW
          by_cases hkey:((bl s).drop a).take k ∈ keysL
          · rw [decide_eq_true hkey] at hkw
            have HKW:=Lib.hid hkw
            have HK:=Lib.hid hkey
            clear hkw hkey
            go_wp2_with (first | (go_at_call 245;refine (hL1.out _).mono ?_;rintro e w' ⟨rfl,rfl⟩) | (go_at_call 246;refine (hD1.out _).mono ?_;rintro e w' ⟨rfl,rfl⟩) | (go_at_call 247;refine HKW.out.mono ?_))
            rintro e w1 ⟨rfl,hb1⟩
            go_wp2
            go_ret2
            exact ⟨ret_two (by rw [HWK.out]) (by rw [HW2.out,if_pos HK.out];rfl),hb1⟩
          · rw [decide_eq_false hkey] at hkw
            have HKW:=Lib.hid hkw
            have HK:=Lib.hid hkey
            clear hkw hkey
            go_wp2_with (first | (go_at_call 245;refine (hL1.out _).mono ?_;rintro e w' ⟨rfl,rfl⟩) | (go_at_call 246;refine (hD1.out _).mono ?_;rintro e w' ⟨rfl,rfl⟩) | (go_at_call 247;refine HKW.out.mono ?_))
            rintro e w1 ⟨rfl,hb1⟩
            go_wp2
            go_ret2
            exact ⟨ret_two (by rw [HWK.out]) (by rw [HW2.out,if_neg HK.out];rfl),hb1⟩
        · have hL1:=Lib.hid (fun W=>hL ▸ letter_any (s[a+k]).toNat W)
          have hD1:=Lib.hid (fun W=>hD ▸ digit_any (s[a+k]).toNat W)
          have HN:=Lib.hid (run_step _ k H.out _ hb.out (by unfold nameB;rw [hL,hD];rfl))
          clear hL hD H
          go_wp2_with (first | (go_at_call 245;refine (hL1.out _).mono ?_;rintro e w' ⟨rfl,rfl⟩) | (go_at_call 246;refine (hD1.out _).mono ?_;rintro e w' ⟨rfl,rfl⟩))
          go_round
          case rel=>exact ⟨k+1,by omega,by go_num,HN⟩
          case measure=>simp [intOf];omega
      · have hL1:=Lib.hid (fun W=>hL ▸ letter_any (s[a+k]).toNat W)
        have HN:=Lib.hid (run_step _ k H.out _ hb.out (by unfold nameB;rw [hL];rfl))
        clear hL H
        go_wp2_with (go_at_call 245;refine (hL1.out _).mono ?_;rintro e w' ⟨rfl,rfl⟩)
        go_round
        case rel=>exact ⟨k+1,by omega,by go_num,HN⟩
        case measure=>simp [intOf];omega
    · have HN:=Lib.hid (run_stop_len H.out (show a+k=s.size by omega))
      have hti:((a:Int)+(k:Int)).toNat=a+k:=by omega
      have hge:¬ (a:Int)+(k:Int)<(s.size:Int):=by omega
      clear H
      have hkw:=keyword_any (s.extract a (a+k)) w
      rw [bl_cut] at hkw
      have j1:(a:Int)≤(a:Int)+(k:Int):=by omega
      have j2:(a:Int)+(k:Int)≤(s.size:Int):=by omega
      have hwk:(wordL ((bl s).drop a)).1=k:=by rw [HW.out];exact HN.out
      have hw2:(wordL ((bl s).drop a)).2=if ((bl s).drop a).take k ∈ keysL then 2 else 1:=by rw [HW.out];simp only;rw [HN.out]
      have HWK:=Lib.hid hwk
      have HW2:=Lib.hid hw2
      clear hwk hw2 HW
      by_cases hkey:((bl s).drop a).take k ∈ keysL
      · rw [decide_eq_true hkey] at hkw
        have HKW:=Lib.hid hkw
        have HK:=Lib.hid hkey
        clear hkw hkey
        go_wp2_with fail
        go_at_call 247
        refine HKW.out.mono ?_
        rintro e w1 ⟨rfl,hb1⟩
        go_wp2
        go_ret2
        exact ⟨ret_two (by rw [HWK.out]) (by rw [HW2.out,if_pos HK.out];rfl),hb1⟩
      · rw [decide_eq_false hkey] at hkw
        have HKW:=Lib.hid hkw
        have HK:=Lib.hid hkey
        clear hkw hkey
        go_wp2_with fail
        go_at_call 247
        refine HKW.out.mono ?_
        rintro e w1 ⟨rfl,hb1⟩
        go_wp2
        go_ret2
        exact ⟨ret_two (by rw [HWK.out]) (by rw [HW2.out,if_neg HK.out];rfl),hb1⟩
set_option maxRecDepth 100000 in
set_option maxHeartbeats 1000000 in
theorem word_digit (s:ByteArray) (a:Nat) (ha:a<s.size) (hs:s.size≤9223372036854775800) (hl:letterB (s[a]).toNat=false) (hd:digitB (s[a]).toNat=true) (w:World):Calls Tryz.prog 211 #[.string s,.int .i64 (a:Int)] w (WordRes ((bl s).drop a) w):=by
  have hw:=wordL_digit (r:=(bl s).drop (a+1)) hl hd
  rw [← head_at s a ha] at hw
  have h0:=Lib.hid (fun W=>hl ▸ letter_any (s[a]).toNat W)
  have h00:=Lib.hid (fun W=>hd ▸ digit_any (s[a]).toNat W)
  have HW:=Lib.hid hw
  clear hl hd hw
  go_enter Tryz.func211,Tryz.ntmps211
  go_wp2_with (first | (go_at_call 245;refine (h0.out _).mono ?_;rintro e w' ⟨rfl,rfl⟩) | (go_at_call 246;refine (h00.out _).mono ?_;rintro e w' ⟨rfl,rfl⟩))
  go_loop [6] (fun i=>∃ k:Nat,a+k≤s.size∧i=.int .i64 k∧Hid (∀ x ∈ ((bl s).drop a).take k,digitB x=true)) (fun i=>s.size - a - (intOf i).toNat)
  case atStart=>exact ⟨0,by omega,rfl,Lib.hid (by simp)⟩
  case round =>
    obtain ⟨k,hk,rfl,H⟩:=hrel
    by_cases hlt:a+k<s.size
    · have hb:=Lib.hid (bl_at s a k hlt)
      have hlt':(a:Int)+(k:Int)<(s.size:Int):=by omega
      have hti:((a:Int)+(k:Int)).toNat=a+k:=by omega
      cases hD:digitB (s[a+k]).toNat
      · have hD1:=Lib.hid (fun W=>hD ▸ digit_any (s[a+k]).toNat W)
        have HN:=Lib.hid (run_stop _ k H.out _ hb.out hD)
        clear hD H
        go_wp2_with (go_at_call 246;refine (hD1.out _).mono ?_;rintro e w' ⟨rfl,rfl⟩)
        go_ret2
        exact ⟨ret_two (by rw [HW.out];simp only;rw [HN.out]) (by rw [HW.out];rfl),Below.refl _ _⟩
      · have hD1:=Lib.hid (fun W=>hD ▸ digit_any (s[a+k]).toNat W)
        have HN:=Lib.hid (run_step _ k H.out _ hb.out hD)
        clear hD H
        go_wp2_with (go_at_call 246;refine (hD1.out _).mono ?_;rintro e w' ⟨rfl,rfl⟩)
        go_round
        case rel=>exact ⟨k+1,by omega,by go_num,HN⟩
        case measure=>simp [intOf];omega
    · have HN:=Lib.hid (run_stop_len H.out (show a+k=s.size by omega))
      have hti:((a:Int)+(k:Int)).toNat=a+k:=by omega
      have hge:¬ (a:Int)+(k:Int)<(s.size:Int):=by omega
      clear H
      go_wp2
      go_ret2
      exact ⟨ret_two (by rw [HW.out];simp only;rw [HN.out]) (by rw [HW.out];rfl),Below.refl _ _⟩
set_option maxRecDepth 100000 in
set_option maxHeartbeats 1000000 in
theorem word_mark (s:ByteArray) (a:Nat) (ha:a<s.size) (hs:s.size≤9223372036854775800) (hl:letterB (s[a]).toNat=false) (hd:digitB (s[a]).toNat=false) (w:World):Calls Tryz.prog 211 #[.string s,.int .i64 (a:Int)] w (WordRes ((bl s).drop a) w):=by
  have hhd:=head_at s a ha
  have hw:=wordL_mark (r:=(bl s).drop (a+1)) hl hd
  rw [← hhd] at hw
  have h0:=Lib.hid (fun W=>hl ▸ letter_any (s[a]).toNat W)
  have h00:=Lib.hid (fun W=>hd ▸ digit_any (s[a]).toNat W)
  have hlen:((bl s).drop a).length=s.size - a:=by rw [List.length_drop,bl_length]
  have hm2:=fun W=>mark_any' (s.extract a (a+2)) W
  have hm1:=fun W=>mark_any' (s.extract a (a+1)) W
  rw [bl_cut] at hm2 hm1
  have ht1:((bl s).drop a).take 1=[(s[a]).toNat]:=by rw [hhd];rfl
  rw [ht1] at hm1
  have t2:((a:Int)+2).toNat=a+2:=by omega
  have t1:((a:Int)+1).toNat=a+1:=by omega
  have j1:(a:Int)≤(a:Int)+1:=by omega
  have j2:(a:Int)+1≤(s.size:Int):=by omega
  have j3:(a:Int)≤(a:Int)+2:=by omega
  clear hl hd hhd ht1
  by_cases hsz:a+2≤s.size
  · have hq:=take2_mark (l:=(bl s).drop a) (by omega)
    have k2:(a:Int)+2≤(s.size:Int):=by omega
    by_cases hm:((bl s).drop a).take 2 ∈ mark2
    · rw [if_pos hm] at hw
      rw [decide_eq_true (hq.2 hm)] at hm2
      have HM2:=Lib.hid hm2
      have HW:=Lib.hid hw
      clear hm2 hm1 hw hq hm hlen
      go_enter Tryz.func211,Tryz.ntmps211
      go_wp2_with (first | (go_at_call 245;refine (h0.out _).mono ?_;rintro e w' ⟨rfl,rfl⟩) | (go_at_call 246;refine (h00.out _).mono ?_;rintro e w' ⟨rfl,rfl⟩))
      go_at_call 248
      refine (HM2.out _).mono ?_
      rintro e w1 ⟨rfl,hb1⟩
      go_wp2
      go_ret2
      exact ⟨ret_two (by rw [HW.out];rfl) (by rw [HW.out];rfl),hb1⟩
    · rw [if_neg hm] at hw
      rw [decide_eq_false (fun h=>hm (hq.1 h))] at hm2
      by_cases hn:(s[a]).toNat ∈ mark1
      · rw [if_pos hn] at hw
        rw [decide_eq_true ((take1_mark _).2 hn)] at hm1
        have HM2:=Lib.hid hm2
        have HM1:=Lib.hid hm1
        have HW:=Lib.hid hw
        clear hm2 hm1 hw hq hm hn hlen
        go_enter Tryz.func211,Tryz.ntmps211
        go_wp2_with (first | (go_at_call 245;refine (h0.out _).mono ?_;rintro e w' ⟨rfl,rfl⟩) | (go_at_call 246;refine (h00.out _).mono ?_;rintro e w' ⟨rfl,rfl⟩))
        go_at_call 248
        refine (HM2.out _).mono ?_
        rintro e w1 ⟨rfl,hb1⟩
        go_wp2_with fail
        go_at_call 248
        refine (HM1.out _).mono ?_
        rintro e w2 ⟨rfl,hb2⟩
        go_wp2
        go_ret2
        exact ⟨ret_two (by rw [HW.out];rfl) (by rw [HW.out];rfl),hb1.trans (hb2.mono hb1.size)⟩
      · rw [if_neg hn] at hw
        rw [decide_eq_false (fun h=>hn ((take1_mark _).1 h))] at hm1
        have HM2:=Lib.hid hm2
        have HM1:=Lib.hid hm1
        have HW:=Lib.hid hw
        clear hm2 hm1 hw hq hm hn hlen
        go_enter Tryz.func211,Tryz.ntmps211
        go_wp2_with (first | (go_at_call 245;refine (h0.out _).mono ?_;rintro e w' ⟨rfl,rfl⟩) | (go_at_call 246;refine (h00.out _).mono ?_;rintro e w' ⟨rfl,rfl⟩))
        go_at_call 248
        refine (HM2.out _).mono ?_
        rintro e w1 ⟨rfl,hb1⟩
        go_wp2_with fail
        go_at_call 248
        refine (HM1.out _).mono ?_
        rintro e w2 ⟨rfl,hb2⟩
        go_wp2
        go_ret2
        exact ⟨ret_two (by rw [HW.out];rfl) (by rw [HW.out];rfl),hb1.trans (hb2.mono hb1.size)⟩
  · rw [if_neg (not_mark2 (by omega))] at hw
    have k2:¬ (a:Int)+2≤(s.size:Int):=by omega
    by_cases hn:(s[a]).toNat ∈ mark1
    · rw [if_pos hn] at hw
      rw [decide_eq_true ((take1_mark _).2 hn)] at hm1
      have HM1:=Lib.hid hm1
      have HW:=Lib.hid hw
      clear hm2 hm1 hw hn hlen
      go_enter Tryz.func211,Tryz.ntmps211
      go_wp2_with (first | (go_at_call 245;refine (h0.out _).mono ?_;rintro e w' ⟨rfl,rfl⟩) | (go_at_call 246;refine (h00.out _).mono ?_;rintro e w' ⟨rfl,rfl⟩))
      go_at_call 248
      refine (HM1.out _).mono ?_
      rintro e w1 ⟨rfl,hb1⟩
      go_wp2
      go_ret2
      exact ⟨ret_two (by rw [HW.out];rfl) (by rw [HW.out];rfl),hb1⟩
    · rw [if_neg hn] at hw
      rw [decide_eq_false (fun h=>hn ((take1_mark _).1 h))] at hm1
      have HM1:=Lib.hid hm1
      have HW:=Lib.hid hw
      clear hm2 hm1 hw hn hlen
      go_enter Tryz.func211,Tryz.ntmps211
      go_wp2_with (first | (go_at_call 245;refine (h0.out _).mono ?_;rintro e w' ⟨rfl,rfl⟩) | (go_at_call 246;refine (h00.out _).mono ?_;rintro e w' ⟨rfl,rfl⟩))
      go_at_call 248
      refine (HM1.out _).mono ?_
      rintro e w1 ⟨rfl,hb1⟩
      go_wp2
      go_ret2
      exact ⟨ret_two (by rw [HW.out];rfl) (by rw [HW.out];rfl),hb1⟩
theorem word_any (s:ByteArray) (a:Nat) (ha:a<s.size) (hs:s.size≤9223372036854775800) (w:World):Calls Tryz.prog 211 #[.string s,.int .i64 (a:Int)] w (WordRes ((bl s).drop a) w):=by
  cases hl:letterB (s[a]).toNat
  · cases hd:digitB (s[a]).toNat
    · exact word_mark s a ha hs hl hd w
    · exact word_digit s a ha hs hl hd w
  · exact word_letter s a ha hs hl w
def ValRes (l:List Nat) (w:World) (e:Ending) (w':World):Prop:=e=.returned (.tuple #[.int .i64 (((if valD l≤most then valD l else 0:Nat)):Int),.bool (decide (valD l≤most))])∧w=w'
theorem ret_ib {a c:Int} {b d:Bool} (h1:a=c) (h2:b=d):Ending.returned (.tuple #[.int .i64 a,.bool b])=.returned (.tuple #[.int .i64 c,.bool d]):=by rw [h1,h2]
set_option maxRecDepth 100000 in
set_option maxHeartbeats 1000000 in
theorem value_any (s:ByteArray) (hs:s.size≤9223372036854775800) (hd:∀ x ∈ bl s,digitB x=true) (w:World):Calls Tryz.prog 212 #[.string s] w (ValRes (bl s) w):=by
  have HD:=Lib.hid (fun (i:Nat) (h:i<s.size)=>digit_range (hd (s[i]).toNat (by rw [List.mem_iff_getElem?];exact ⟨i,bl_get s i h⟩)))
  clear hd
  go_enter Tryz.func212,Tryz.ntmps212
  go_wp2
  go_loop [4,5] (fun n i=>∃ k v:Nat,k≤s.size∧i=.int .i64 k∧n=.int .i64 v∧v≤9223372036854775807∧Hid (v=valD ((bl s).take k))) (fun _ i=>s.size - (intOf i).toNat)
  case atStart=>exact ⟨0,0,Nat.zero_le _,rfl,rfl,by omega,Lib.hid rfl⟩
  case round =>
    obtain ⟨k,v,hk,rfl,rfl,hv,HV⟩:=hrel
    by_cases hlt:k<s.size
    · obtain ⟨d1,d2⟩:=HD.out k hlt
      have hstep:=valD_take (bl s) k (by rw [bl_length];exact hlt)
      rw [bl_getD s k hlt,← HV.out] at hstep
      have hle:=valD_take_le (bl s) (k+1)
      have hm:(((s[k]).toNat:Int) - 48) % 256=((s[k]).toNat:Int) - 48:=by omega
      have HM:=Lib.hid hm
      clear hm
      by_cases hbig:most<valD ((bl s).take (k+1))
      · have hlt2:(9223372036854775807 - (((s[k]).toNat:Int) - 48) % 256) / 10<(v:Int):=by
          have:=(too_great v ((s[k]).toNat - 48) (by omega)).2 (by rw [← hstep];exact hbig)
          rw [HM.out]
          simp only [most] at this
          omega
        have HT:=Lib.hid (show ¬ valD (bl s)≤most by omega)
        clear hstep hle hbig
        go_wp2
        go_ret2
        exact ⟨ret_ib (by rw [if_neg HT.out];rfl) (by rw [decide_eq_false HT.out]),rfl⟩
      · have hge2:¬ (9223372036854775807 - (((s[k]).toNat:Int) - 48) % 256) / 10<(v:Int):=by
          intro hc
          refine hbig ?_
          rw [hstep]
          refine (too_great v ((s[k]).toNat - 48) (by omega)).1 ?_
          rw [HM.out] at hc
          simp only [most]
          omega
        have hv2:10 * v+((s[k]).toNat - 48)≤9223372036854775807:=by rw [← hstep];exact Nat.le_of_not_lt hbig
        have HN:=Lib.hid (show 10 * v+((s[k]).toNat - 48)=valD ((bl s).take (k+1)) from hstep.symm)
        clear hstep hle hbig
        go_wp2
        go_round
        case rel=>exact ⟨k+1,10 * v+((s[k]).toNat - 48),by omega,by go_num,by congr 1;omega,hv2,HN⟩
        case measure=>simp [intOf];omega
    · have hk2:(bl s).take k=bl s:=List.take_of_length_le (by rw [bl_length];omega)
      have HT:Hid (v=valD (bl s)):=Lib.hid (by rw [← hk2];exact HV.out)
      clear hk2 HV
      go_wp2
      go_ret2
      exact ⟨ret_ib (by rw [← HT.out,if_pos (by simp only [most];exact hv)]) (by rw [← HT.out,decide_eq_true (by simp only [most];exact hv)]),rfl⟩
end Go.Proofs.YtpcniebkabkikaaGreatDoor
namespace Go.Proofs.YtpcniebkabkikaaGreatDoor
open Go Go.RowKit
def wordsR (s:ByteArray):List Tok × Nat × Nat:=if 65536<s.size then ([],0,3) else scanL (bl s) 0
def WordsRes (s:ByteArray) (w:World) (e:Ending) (w':World):Prop :=
  Below w.heap.size w w'∧∃ (ys:List It) (q:Option Addr) (c:Nat),ys.map (fun x=>x.key.1)=(wordsR s).1∧(∀ x ∈ ys,x.e=0) ∧
    e=.returned (.tuple #[.slice q ys.length c,.int .i64 ((wordsR s).2.1:Nat),.int .i64 ((wordsR s).2.2:Nat)])∧w'.ownsRow w.heap.size 182 4 (.slice q ys.length c) ys.length (tokCells ys)
theorem words_long (s:ByteArray) (hs:65536<s.size) (w:World):Calls Tryz.prog 172 #[.string s] w (WordsRes s w):=by
  have hr:wordsR s=([],0,3):=if_pos hs
  have HR:=Lib.hid hr
  clear hr
  go_enter Tryz.func172,Tryz.ntmps172
  go_wp2
  go_ret3
  exact ⟨Below.refl _ _,[],none,0,by rw [HR.out];rfl,fun x hx=>absurd hx (by simp),by rw [HR.out];rfl,World.ownsRow_nil _ _ _ _⟩
theorem info32:∃ i,Tryz.prog.info? 182=some i∧i.zero=some (.agg #[.int .i64 0,.string ⟨#[]⟩,.int .i64 0,.int .i64 0])∧i.size=4∧i.bytes=40:=by
  have h:(Tryz.prog.info? 182).map (fun i=>(i.zero,i.size,i.bytes))=some (some (.agg #[.int .i64 0,.string ⟨#[]⟩,.int .i64 0,.int .i64 0]),4,40):=by kernel_rfl
  cases hi:Tryz.prog.info? 182 with
  | none=>rw [hi] at h;cases h
  | some i =>
    rw [hi] at h
    simp only [Option.map_some,Option.some.injEq,Prod.mk.injEq] at h
    obtain ⟨e1,e2,e3⟩:=h
    exact ⟨i,rfl,e1,e2,e3⟩
theorem digits_of {l:List Nat} (h:(wordL l).2=3):∀ x ∈ l.take (wordL l).1,digitB x=true:=by
  cases l with
  | nil=>simp [wordL] at h
  | cons c r =>
    by_cases hl:letterB c=true
    · rw [wordL_letter hl] at h
      simp only at h
      split at h <;> omega
    · have hl:letterB c=false:=by simpa using hl
      by_cases hd:digitB c=true
      · rw [wordL_digit hl hd]
        simp only
        rw [takeWhile_is_take]
        exact fun x hx=>mem_takeWhile _ x hx
      · have hd:digitB c=false:=by simpa using hd
        rw [wordL_mark hl hd] at h
        split at h
        · simp at h
        · split at h <;> simp at h
structure RSt (s:ByteArray) (k:Nat) (ys:List It):Prop where
  toks:ys.map (fun x=>x.key.1)++(scanL ((bl s).drop k) k).1=(scanL (bl s) 0).1
  rest:(scanL ((bl s).drop k) k).2=(scanL (bl s) 0).2
  clean:∀ x ∈ ys,x.e=0
  len:ys.length≤k
theorem RSt.blank {s:ByteArray} {k:Nat} {ys:List It} (h:RSt s k ys) (hk:k<s.size) (hb:blankB (s[k]).toNat=true):RSt s (k+1) ys:=by
  have h1:=h.toks
  have h2:=h.rest
  rw [head_at s k hk,scanL_blank _ _ hb] at h1 h2
  exact ⟨h1,h2,h.clean,by have:=h.len;omega⟩
theorem RSt.comment {s:ByteArray} {k j:Nat} {ys:List It} (h:RSt s k ys) (hk:k<s.size) (hb:(s[k]).toNat=35) (hj:(((bl s).drop k).takeWhile inC).length=j):RSt s (k+j) ys:=by
  have h1:=h.toks
  have h2:=h.rest
  have hd:((bl s).drop k).dropWhile inC=(bl s).drop (k+j):=by rw [← drop_takeWhile,hj,List.drop_drop]
  have hc:scanL ((bl s).drop k) k=scanL ((bl s).drop (k+j)) (k+j):=by
    have:=scan_comment ((bl s).drop (k+1)) k
    rw [← hb,← head_at s k hk,hd,hj] at this
    exact this
  rw [hc] at h1 h2
  exact ⟨h1,h2,h.clean,by have:=h.len;omega⟩
theorem RSt.err {s:ByteArray} {k:Nat} {ys:List It} (h:RSt s k ys) (hk:k<s.size) (hb:blankB (s[k]).toNat=false) (h35:(s[k]).toNat ≠ 35) (he:errL ((bl s).drop k) ≠ 0) :
    ys.map (fun x=>x.key.1)=(scanL (bl s) 0).1∧(scanL (bl s) 0).2=(k,errL ((bl s).drop k)):=by
  have h1:=h.toks
  have h2:=h.rest
  rw [head_at s k hk] at h1 h2 he
  rw [scan_err k hb h35 he] at h1 h2
  rw [← head_at s k hk] at h2
  rw [List.append_nil] at h1
  exact ⟨h1,h2.symm⟩
theorem RSt.word {s:ByteArray} {k:Nat} {ys:List It} (h:RSt s k ys) (hk:k<s.size) (hb:blankB (s[k]).toNat=false) (h35:(s[k]).toNat ≠ 35) (he:errL ((bl s).drop k)=0) :
    RSt s (k+(wordL ((bl s).drop k)).1) (ys++[⟨(wordL ((bl s).drop k)).2,s.extract k (k+(wordL ((bl s).drop k)).1),valL ((bl s).drop k),k,0⟩]):=by
  have h1:=h.toks
  have h2:=h.rest
  have hn:=errL_word he
  have hx:(It.key ⟨(wordL ((bl s).drop k)).2,s.extract k (k+(wordL ((bl s).drop k)).1),valL ((bl s).drop k),k,0⟩).1=⟨(wordL ((bl s).drop k)).2,((bl s).drop k).take (wordL ((bl s).drop k)).1,valL ((bl s).drop k),k⟩:=by
    show Tok.mk _ (bl (s.extract k _)) _ _=_
    rw [bl_cut]
  have hsc:scanL ((bl s).drop k) k=(⟨(wordL ((bl s).drop k)).2,((bl s).drop k).take (wordL ((bl s).drop k)).1,valL ((bl s).drop k),k⟩ :: (scanL ((bl s).drop (k+(wordL ((bl s).drop k)).1)) (k+(wordL ((bl s).drop k)).1)).1,(scanL ((bl s).drop (k+(wordL ((bl s).drop k)).1)) (k+(wordL ((bl s).drop k)).1)).2):=by
    rw [← List.drop_drop]
    rw [head_at s k hk] at he ⊢
    exact scan_word k hb h35 he
  rw [hsc] at h1 h2
  refine ⟨?_,h2,fun x hm=>?_,?_⟩
  · rw [List.map_append,List.map_cons,List.map_nil,hx,List.append_assoc]
    exact h1
  · rcases List.mem_append.1 hm with hm | hm
    · exact h.clean x hm
    · obtain rfl:=List.mem_singleton.1 hm
      rfl
  · rw [List.length_append,List.length_singleton]
    have:=h.len
    omega
theorem RSt.done {s:ByteArray} {k:Nat} {ys:List It} (h:RSt s k ys) (hk:s.size≤k):ys.map (fun x=>x.key.1)=(scanL (bl s) 0).1∧(scanL (bl s) 0).2=(k,0):=by
  have h1:=h.toks
  have h2:=h.rest
  rw [List.drop_of_length_le (by rw [bl_length];exact hk),scanL_nil] at h1 h2
  rw [List.append_nil] at h1
  exact ⟨h1,h2.symm⟩
set_option maxRecDepth 100000 in
set_option maxHeartbeats 4000000 in
theorem words_ok (s:ByteArray) (hs:s.size≤65536) (w:World):Calls Tryz.prog 172 #[.string s] w (WordsRes s w):=by
  obtain ⟨i0,hi,hz0,hz1,hz2⟩:=info32
  have HR:=Lib.hid (show wordsR s=scanL (bl s) 0 from if_neg (by omega))
  go_enter Tryz.func172,Tryz.ntmps172
  go_wp2
  go_loopw [5,6] (fun l a wr=>∃ (k:Nat) (ys:List It) (q:Option Addr) (c:Nat),k≤s.size∧a=.int .i64 k∧l=.slice q ys.length c∧wr.ownsRow w.heap.size 182 4 (.slice q ys.length c) ys.length (tokCells ys)∧Below w.heap.size w wr∧Hid (RSt s k ys)) (fun _ a _=>s.size - (intOf a).toNat)
  case atStart=>exact ⟨0,[],none,0,Nat.zero_le _,rfl,rfl,World.ownsRow_nil _ _ _ _,Below.refl _ _,Lib.hid ⟨by rw [List.drop_zero];rfl,by rw [List.drop_zero],fun x hx=>absurd hx (by simp),Nat.le_refl _⟩⟩
  case round =>
    obtain ⟨k,ys,q,c,hk,rfl,rfl,hrow,hB,HS⟩:=hrel
    by_cases hlt:k<s.size
    · have hbl:=blank_any (s[k]).toNat wr
      by_cases hb:blankB (s[k]).toNat=true
      · rw [hb] at hbl
        have HB:=Lib.hid hbl
        have HN:=Lib.hid (HS.out.blank hlt hb)
        clear hbl hb HS
        go_wp2_with (go_at_call 210;refine HB.out.mono ?_;rintro e w' ⟨rfl,rfl⟩)
        exact ⟨⟨k+1,ys,q,c,by omega,by go_num,rfl,hrow,hB,HN⟩,by simp [intOf];omega⟩
      · have hb:blankB (s[k]).toNat=false:=by simpa using hb
        rw [hb] at hbl
        have HB:=Lib.hid hbl
        have HBB:=Lib.hid hb
        clear hbl hb
        by_cases h35:(s[k]).toNat=35
        · have n35:(((s[k]).toNat:Int) == 35)=true:=by simp;omega
          have H35:=Lib.hid h35
          clear h35
          obtain ⟨wo,rfl⟩:∃ wo:World,wo=wr:=⟨_,rfl⟩
          go_wp2_with (go_at_call 210;refine HB.out.mono ?_;rintro e w' ⟨rfl,rfl⟩)
          go_loop [6] (fun i=>∃ m:Nat,k≤m∧m≤s.size∧i=.int .i64 m∧Hid (∀ x ∈ ((bl s).drop k).take (m - k),inC x=true)) (fun i=>s.size - (intOf i).toNat)
          case atStart=>exact ⟨k,Nat.le_refl _,hk,rfl,Lib.hid (by simp)⟩
          case round =>
            obtain ⟨m,hkm,hm,rfl,HI⟩:=hrel
            have HO:=Lib.hid (fun (hl:(((bl s).drop k).takeWhile inC).length=m - k)=>And.intro (show RSt s m ys by
              have:=HS.out.comment hlt H35.out hl
              rwa [show k+(m - k)=m by omega] at this) (show k<m by
              rw [head_at s k hlt,List.takeWhile_cons,if_pos (by rw [H35.out];rfl),List.length_cons] at hl;omega))
            by_cases hlm:m<s.size
            · have hbm:=bl_at s k (m - k) (by omega)
              have hidx:s[k+(m - k)]'(by omega)=s[m]:=by congr 1;omega
              rw [hidx] at hbm
              have hmi:(m:Int)<(s.size:Int):=by omega
              by_cases h10:(s[m]).toNat=10
              · have n10:(((s[m]).toNat:Int) != 10)=false:=by rw [h10];rfl
                obtain ⟨g1,g2⟩:=HO.out (run_stop _ (m - k) HI.out _ hbm (by rw [h10];rfl))
                have HG:=Lib.hid g1
                clear hbm hidx h10 HO HI g1
                go_wp2
                exact ⟨⟨m,ys,q,c,by omega,rfl,rfl,hrow,hB,HG⟩,by simp [intOf];omega⟩
              · have n10:(((s[m]).toNat:Int) != 10)=true:=by simp;omega
                have hst:=run_step _ (m - k) HI.out _ hbm (by unfold inC;simpa using h10)
                rw [show m - k+1=m+1 - k by omega] at hst
                have HN:=Lib.hid hst
                clear hbm hidx h10 HO HI hst
                go_wp2
                go_round
                case rel=>exact ⟨m+1,by omega,by omega,by go_num,HN⟩
                case measure=>simp [intOf];omega
            · have hmi:¬ (m:Int)<(s.size:Int):=by omega
              obtain ⟨g1,g2⟩:=HO.out (run_stop_len HI.out (by omega))
              have HG:=Lib.hid g1
              clear HO HI g1
              go_wp2
              exact ⟨⟨m,ys,q,c,by omega,rfl,rfl,hrow,hB,HG⟩,by simp [intOf];omega⟩
        · have n35:(((s[k]).toNat:Int) == 35)=false:=by simp;omega
          have hwc:=word_any s k hlt (by omega) wr
          have hcut:=bl_cut s k (wordL ((bl s).drop k)).1
          have herr:=fun he=>HS.out.err hlt HBB.out h35 he
          have hword:=fun he=>HS.out.word hlt HBB.out h35 he
          have hwle:=wordL_le ((bl s).drop k)
          rw [List.length_drop,bl_length] at hwle
          have hdig:=digits_of (l:=(bl s).drop k)
          have hlen:=HS.out.len
          have hcl:=HS.out.clean
          unfold errL at herr hword
          unfold valL at hword
          unfold WordRes at hwc
          generalize (wordL ((bl s).drop k)).1=nn at *
          generalize (wordL ((bl s).drop k)).2=kd at *
          have HWC:=Lib.hid hwc
          have HERR:=Lib.hid herr
          have HWORD:=Lib.hid hword
          have HDIG:=Lib.hid hdig
          have HCUT:=Lib.hid hcut
          have HCL:=Lib.hid hcl
          clear hwc herr hword hdig hcut h35 HBB HS hcl
          by_cases hn0:nn=0
          · have hr:=HERR.out (by rw [if_pos hn0];decide)
            rw [if_pos hn0] at hr
            have HRR:=Lib.hid hr
            subst hn0
            clear hr HERR HWORD HDIG HCUT
            go_wp2_with (first | (go_at_call 210;refine HB.out.mono ?_;rintro e w' ⟨rfl,rfl⟩) | (go_at_call 211;refine HWC.out.mono ?_))
            rintro e w1 ⟨rfl,hb1⟩
            go_wp2
            have hrow1:=hrow.kept (grown_of_below hb1) (by cases q <;> simp [Value.ownBlock])
            go_ret3
            exact ⟨hB.trans (hb1.mono hB.size),ys,q,c,by rw [HR.out];exact HRR.out.1,HCL.out,by rw [HR.out,HRR.out.2];rfl,hrow1⟩
          · have hnz:(((nn:Nat):Int) == 0)=false:=by simp;omega
            have j0:((k:Int)+(nn:Int)).toNat=k+nn:=by omega
            have j1:(k:Int)≤(k:Int)+(nn:Int):=by omega
            have j2:(k:Int)+(nn:Int)≤(s.size:Int):=by omega
            have hext:(s.extract k (k+nn)).size=nn:=by simp;omega
            have hnp:0<nn:=by omega
            by_cases hk1:kd=1
            · subst hk1
              by_cases h32:32<nn
              · have hr:=HERR.out (by rw [if_neg hn0,if_pos ⟨rfl,h32⟩];decide)
                rw [if_neg hn0,if_pos ⟨rfl,h32⟩] at hr
                have HRR:=Lib.hid hr
                clear hr HERR HWORD HDIG HCUT hn0 hext
                go_wp2_with (first | (go_at_call 210;refine HB.out.mono ?_;rintro e w' ⟨rfl,rfl⟩) | (go_at_call 211;refine HWC.out.mono ?_))
                rintro e w1 ⟨rfl,hb1⟩
                have hrow1:=hrow.kept (grown_of_below hb1) (by cases q <;> simp [Value.ownBlock])
                have hB1:=hB.trans (hb1.mono hB.size)
                go_wp2
                go_ret3
                exact ⟨hB1.alloc hB1.size _,ys,q,c,by rw [HR.out];exact HRR.out.1,HCL.out,by rw [HR.out,HRR.out.2];rfl,hrow1.alloc _⟩
              · have hw:=HWORD.out (by rw [if_neg hn0,if_neg (fun h=>h32 h.2),if_neg (by omega)])
                rw [if_neg (by omega)] at hw
                have HNX:=Lib.hid hw
                clear hw HERR HWORD HDIG HCUT hn0 hext
                go_wp2_with (first | (go_at_call 210;refine HB.out.mono ?_;rintro e w' ⟨rfl,rfl⟩) | (go_at_call 211;refine HWC.out.mono ?_))
                rintro e w1 ⟨rfl,hb1⟩
                have hrow1:=hrow.kept (grown_of_below hb1) (by cases q <;> simp [Value.ownBlock])
                have hB1:=hB.trans (hb1.mono hB.size)
                clear hrow hB
                go_wp2_with (at_builtin;refine wpList_append_own _ rfl _ _ 122 rfl w.heap.size 182 i0 _ 4 40 Tryz.underlying122 hi hz0 hz1 hz2 rfl (by decide) _ _ _ rfl ((hrow1.alloc _).alloc _) ⟨w1.heap.size+1,0,none⟩ 1 1 [.int .i64 1,.string (s.extract k (k+nn)),.int .i64 0,.int .i64 (k:Nat)] rfl rfl ?c1 ?c2 ?c3 ?c4 ?c5 ?_)
                case c1 =>
                  have:=row_new (w1.alloc (.cells #[.int .i64 1,.string (s.extract k (k+nn)),.int .i64 0,.int .i64 (k:Nat)] 182)) [.int .i64 1,.string (s.extract k (k+nn)),.int .i64 0,.int .i64 (k:Nat)] 182
                  rwa [World.size_alloc] at this
                case c2 =>
                  intro u hu
                  rcases List.mem_cons.1 hu with rfl | hu
                  · rfl
                  rcases List.mem_cons.1 hu with rfl | hu
                  · rfl
                  rcases List.mem_cons.1 hu with rfl | hu
                  · rfl
                  rcases List.mem_cons.1 hu with rfl | hu
                  · rfl
                  · exact absurd hu (by simp)
                case c3=>unfold maxLen;omega
                case c4=>omega
                case c5=>have:=hB1.size;simp;omega
                intro v' w9 hown9 hgrow9 _
                obtain ⟨g',cap',rfl⟩:=ownsRow_succ hown9
                have hB9:Below w.heap.size w w9:=((hB1.alloc hB1.size _).alloc (by have:=hB1.size;simp;omega) _).grown hgrow9 (by have:=hB1.size;simp;omega) (fun j hj=>by have:=(hrow1.lt j hj).1;omega)
                go_wp2
                exact ⟨⟨k+nn,ys++[⟨1,s.extract k (k+nn),0,k,0⟩],some ⟨g',0,none⟩,cap',by omega,by rw [Int.natCast_add],by rw [List.length_append];rfl,by rw [List.length_append,tokCells_snoc];exact hown9,hB9,HNX⟩,by rw [show (intOf (Value.int .i64 ((k:Int)+(nn:Int)))).toNat=k+nn from j0];simp [intOf];omega⟩
            · have hk1b:(((kd:Nat):Int) == 1)=false:=by simp;omega
              by_cases hk3:kd=3
              · subst hk3
                have hdg:=HDIG.out rfl
                rw [← HCUT.out] at hdg
                have hval:=fun W=>value_any (s.extract k (k+nn)) (by omega) hdg W
                unfold ValRes at hval
                rw [HCUT.out] at hval
                generalize ((bl s).drop k).take nn=dd at *
                by_cases hm:most<valD dd
                · have hr:=HERR.out (by rw [if_neg hn0,if_neg (by omega),if_pos ⟨rfl,hm⟩];decide)
                  rw [if_neg hn0,if_neg (by omega),if_pos ⟨rfl,hm⟩] at hr
                  rw [if_neg (by omega),decide_eq_false (by omega)] at hval
                  have HRR:=Lib.hid hr
                  have HV:=Lib.hid hval
                  clear hr hval HERR HWORD HDIG HCUT hn0 hext hdg hm hk1
                  go_wp2_with (first | (go_at_call 210;refine HB.out.mono ?_;rintro e w' ⟨rfl,rfl⟩) | (go_at_call 211;refine HWC.out.mono ?_))
                  rintro e w1 ⟨rfl,hb1⟩
                  have hrow1:=hrow.kept (grown_of_below hb1) (by cases q <;> simp [Value.ownBlock])
                  have hB1:=hB.trans (hb1.mono hB.size)
                  go_wp2_with (go_at_call 212;refine (HV.out _).mono ?_;rintro e w' ⟨rfl,rfl⟩)
                  go_ret3
                  exact ⟨hB1.alloc hB1.size _,ys,q,c,by rw [HR.out];exact HRR.out.1,HCL.out,by rw [HR.out,HRR.out.2];rfl,hrow1.alloc _⟩
                · have hw:=HWORD.out (by rw [if_neg hn0,if_neg (by omega),if_neg (fun h=>hm h.2)])
                  rw [if_pos rfl] at hw
                  rw [if_pos (by omega),decide_eq_true (by omega)] at hval
                  generalize valD dd=vv at *
                  have HNX:=Lib.hid hw
                  have HV:=Lib.hid hval
                  clear hw hval HERR HWORD HDIG HCUT hn0 hext hdg hm hk1
                  go_wp2_with (first | (go_at_call 210;refine HB.out.mono ?_;rintro e w' ⟨rfl,rfl⟩) | (go_at_call 211;refine HWC.out.mono ?_))
                  rintro e w1 ⟨rfl,hb1⟩
                  have hrow1:=hrow.kept (grown_of_below hb1) (by cases q <;> simp [Value.ownBlock])
                  have hB1:=hB.trans (hb1.mono hB.size)
                  clear hrow hB
                  go_wp2_with (first | (go_at_call 212;refine (HV.out _).mono ?_;rintro e w' ⟨rfl,rfl⟩) | (at_builtin;refine wpList_append_own _ rfl _ _ 122 rfl w.heap.size 182 i0 _ 4 40 Tryz.underlying122 hi hz0 hz1 hz2 rfl (by decide) _ _ _ rfl ((hrow1.alloc _).alloc _) ⟨w1.heap.size+1,0,none⟩ 1 1 [.int .i64 3,.string (s.extract k (k+nn)),.int .i64 (vv:Nat),.int .i64 (k:Nat)] rfl rfl ?c1 ?c2 ?c3 ?c4 ?c5 ?_))
                  case c1 =>
                    have:=row_new (w1.alloc (.cells #[.int .i64 3,.string (s.extract k (k+nn)),.int .i64 (vv:Nat),.int .i64 (k:Nat)] 182)) [.int .i64 3,.string (s.extract k (k+nn)),.int .i64 (vv:Nat),.int .i64 (k:Nat)] 182
                    rwa [World.size_alloc] at this
                  case c2 =>
                    intro u hu
                    rcases List.mem_cons.1 hu with rfl | hu
                    · rfl
                    rcases List.mem_cons.1 hu with rfl | hu
                    · rfl
                    rcases List.mem_cons.1 hu with rfl | hu
                    · rfl
                    rcases List.mem_cons.1 hu with rfl | hu
                    · rfl
                    · exact absurd hu (by simp)
                  case c3=>unfold maxLen;omega
                  case c4=>omega
                  case c5=>have:=hB1.size;simp;omega
                  intro v' w9 hown9 hgrow9 _
                  obtain ⟨g',cap',rfl⟩:=ownsRow_succ hown9
                  have hB9:Below w.heap.size w w9:=((hB1.alloc hB1.size _).alloc (by have:=hB1.size;simp;omega) _).grown hgrow9 (by have:=hB1.size;simp;omega) (fun j hj=>by have:=(hrow1.lt j hj).1;omega)
                  go_wp2
                  exact ⟨⟨k+nn,ys++[⟨3,s.extract k (k+nn),vv,k,0⟩],some ⟨g',0,none⟩,cap',by omega,by rw [Int.natCast_add],by rw [List.length_append];rfl,by rw [List.length_append,tokCells_snoc];exact hown9,hB9,HNX⟩,by rw [show (intOf (Value.int .i64 ((k:Int)+(nn:Int)))).toNat=k+nn from j0];simp [intOf];omega⟩
              · have hk3b:(((kd:Nat):Int) == 3)=false:=by simp;omega
                have hw:=HWORD.out (by rw [if_neg hn0,if_neg (fun h=>hk1 h.1),if_neg (fun h=>hk3 h.1)])
                rw [if_neg hk3] at hw
                have HNX:=Lib.hid hw
                clear hw HERR HWORD HDIG HCUT hn0 hext hk1 hk3
                go_wp2_with (first | (go_at_call 210;refine HB.out.mono ?_;rintro e w' ⟨rfl,rfl⟩) | (go_at_call 211;refine HWC.out.mono ?_))
                rintro e w1 ⟨rfl,hb1⟩
                have hrow1:=hrow.kept (grown_of_below hb1) (by cases q <;> simp [Value.ownBlock])
                have hB1:=hB.trans (hb1.mono hB.size)
                clear hrow hB
                go_wp2_with (at_builtin;refine wpList_append_own _ rfl _ _ 122 rfl w.heap.size 182 i0 _ 4 40 Tryz.underlying122 hi hz0 hz1 hz2 rfl (by decide) _ _ _ rfl ((hrow1.alloc _).alloc _) ⟨w1.heap.size+1,0,none⟩ 1 1 [.int .i64 (kd:Nat),.string (s.extract k (k+nn)),.int .i64 0,.int .i64 (k:Nat)] rfl rfl ?c1 ?c2 ?c3 ?c4 ?c5 ?_)
                case c1 =>
                  have:=row_new (w1.alloc (.cells #[.int .i64 (kd:Nat),.string (s.extract k (k+nn)),.int .i64 0,.int .i64 (k:Nat)] 182)) [.int .i64 (kd:Nat),.string (s.extract k (k+nn)),.int .i64 0,.int .i64 (k:Nat)] 182
                  rwa [World.size_alloc] at this
                case c2 =>
                  intro u hu
                  rcases List.mem_cons.1 hu with rfl | hu
                  · rfl
                  rcases List.mem_cons.1 hu with rfl | hu
                  · rfl
                  rcases List.mem_cons.1 hu with rfl | hu
                  · rfl
                  rcases List.mem_cons.1 hu with rfl | hu
                  · rfl
                  · exact absurd hu (by simp)
                case c3=>unfold maxLen;omega
                case c4=>omega
                case c5=>have:=hB1.size;simp;omega
                intro v' w9 hown9 hgrow9 _
                obtain ⟨g',cap',rfl⟩:=ownsRow_succ hown9
                have hB9:Below w.heap.size w w9:=((hB1.alloc hB1.size _).alloc (by have:=hB1.size;simp;omega) _).grown hgrow9 (by have:=hB1.size;simp;omega) (fun j hj=>by have:=(hrow1.lt j hj).1;omega)
                go_wp2
                exact ⟨⟨k+nn,ys++[⟨kd,s.extract k (k+nn),0,k,0⟩],some ⟨g',0,none⟩,cap',by omega,by rw [Int.natCast_add],by rw [List.length_append];rfl,by rw [List.length_append,tokCells_snoc];exact hown9,hB9,HNX⟩,by rw [show (intOf (Value.int .i64 ((k:Int)+(nn:Int)))).toNat=k+nn from j0];simp [intOf];omega⟩
    · obtain ⟨f1,f2⟩:=HS.out.done (by omega)
      have HF:=Lib.hid (And.intro f1 f2)
      have HC:=Lib.hid HS.out.clean
      clear f1 f2 HS
      go_wp2
      go_ret3
      refine ⟨hB,ys,q,c,by rw [HR.out];exact HF.out.1,HC.out,by rw [HR.out,HF.out.2];rfl,hrow⟩
end Go.Proofs.YtpcniebkabkikaaGreatDoor
namespace Go.Proofs.YtpcniebkabkikaaGreatDoor
open Go Go.RowKit Go.Proofs.Mm
open Go.Proofs.Syn (K Ex Tm opLv opMark unMark opLv_le)
set_option maxRecDepth 100000 in
theorem wants_d (t:TmZ) (W:World):Calls Tryz.prog 85 #[tv t] W fun e w'=>e=.returned (.int .i64 ((wantZ t:Nat):Int))∧W.alloc (tb t)=w':=by
  obtain ⟨k,v,s⟩:=t
  unfold tv tb wantZ
  simp only
  by_cases h5:k=5
  · subst h5
    go_enter Tryz.func85,Tryz.ntmps85
    go_wp2
    go_ret
    exact ⟨rfl,rfl⟩
  by_cases h3:k=3
  · subst h3
    go_enter Tryz.func85,Tryz.ntmps85
    go_wp2
    go_ret
    exact ⟨rfl,rfl⟩
  by_cases h4:k=4
  · subst h4
    go_enter Tryz.func85,Tryz.ntmps85
    go_wp2
    go_ret
    exact ⟨rfl,rfl⟩
  rw [if_neg h5,if_neg (by omega)]
  have e5:(k == 5)=false:=by simpa using h5
  have e3:(k == 3)=false:=by simpa using h3
  have e4:(k == 4)=false:=by simpa using h4
  go_enter Tryz.func85,Tryz.ntmps85
  go_wp2
  go_ret
  exact ⟨rfl,rfl⟩
set_option maxRecDepth 100000 in
theorem level_d (o:Nat) (h1:1≤o) (h2:o≤14) (W:World):Calls Tryz.prog 89 #[.int .i64 (o:Nat)] W fun e w'=>e=.returned (.int .i64 ((opLv o:Nat):Int))∧W=w':=by
  obtain rfl | rfl | rfl | rfl | rfl | rfl | rfl | rfl | rfl | rfl | rfl | rfl | rfl | rfl:o=1 ∨ o=2 ∨ o=3 ∨ o=4 ∨ o=5 ∨ o=6 ∨ o=7 ∨ o=8 ∨ o=9 ∨ o=10 ∨ o=11 ∨ o=12 ∨ o=13 ∨ o=14:=by omega
  all_goals
    clear h1 h2
    go_enter Tryz.func89,Tryz.ntmps89
    go_wp2
    go_ret
    exact ⟨rfl,rfl⟩
set_option maxRecDepth 100000 in
set_option maxHeartbeats 1000000 in
theorem rank_d (t:TmZ) (hr:rightZ t=true) (W:World):Calls Tryz.prog 48 #[tv t] W fun e w'=>e=.returned (.int .i64 ((lvT (tmN t):Nat):Int))∧W.alloc (tb t)=w':=by
  rcases right_k hr with hk | hk | hk | hk | hk
  · obtain ⟨k,v,s⟩:=t
    obtain rfl:k=1:=hk
    clear hr
    show Calls _ _ _ _ fun e w'=>e=.returned (.int .i64 7)∧_
    unfold tv tb
    go_enter Tryz.func48,Tryz.ntmps48
    go_wp2
    go_ret
    exact ⟨rfl,rfl⟩
  · obtain ⟨k,v,s⟩:=t
    obtain rfl:k=2:=hk
    clear hr
    show Calls _ _ _ _ fun e w'=>e=.returned (.int .i64 7)∧_
    unfold tv tb
    go_enter Tryz.func48,Tryz.ntmps48
    go_wp2
    go_ret
    exact ⟨rfl,rfl⟩
  · obtain ⟨k,v,s⟩:=t
    obtain rfl:k=3:=hk
    clear hr
    show Calls _ _ _ _ fun e w'=>e=.returned (.int .i64 7)∧_
    unfold tv tb
    go_enter Tryz.func48,Tryz.ntmps48
    go_wp2
    go_ret
    exact ⟨rfl,rfl⟩
  · obtain ⟨k,v,s⟩:=t
    obtain rfl:k=4:=hk
    clear hr
    show Calls _ _ _ _ fun e w'=>e=.returned (.int .i64 6)∧_
    unfold tv tb
    go_enter Tryz.func48,Tryz.ntmps48
    go_wp2
    go_ret
    exact ⟨rfl,rfl⟩
  · obtain ⟨h1,h2,_⟩:=right_5 hr hk
    obtain ⟨k,v,s⟩:=t
    obtain rfl:k=5:=hk
    simp only at h1 h2
    obtain ⟨n,rfl⟩:∃ n:Nat,v=n:=⟨v.toNat,by omega⟩
    have hlv:=level_d n (by omega) (by omega)
    clear hr h1 h2
    show Calls _ _ _ _ fun e w'=>e=.returned (.int .i64 ((opLv n:Nat):Int))∧_
    unfold tv tb at *
    generalize opLv n=lv at *
    go_enter Tryz.func48,Tryz.ntmps48
    go_wp2_with (go_at_call 89;refine (hlv _).mono ?_;rintro e w' ⟨rfl,rfl⟩)
    go_ret
    exact ⟨rfl,rfl⟩
theorem words_all (s:ByteArray) (w:World):Calls Tryz.prog 172 #[.string s] w (WordsRes s w):=by
  by_cases h:s.size≤65536
  · exact words_ok s h w
  · exact words_long s (by omega) w
set_option maxRecDepth 100000 in
set_option maxHeartbeats 1000000 in
theorem docIs_d (s:ByteArray) (w:World):Calls Tryz.prog 142 #[.string s] w fun e w'=>∃ k:Nat,e=.returned (.int .i64 (k:Nat))∧(k=1 ↔ isL (bl s)=1)∧Below w.heap.size w w':=by
  have HW:=Lib.hid (words_all s w)
  go_enter Tryz.func142,Tryz.ntmps142
  go_wp2_with fail
  go_at_call 172
  refine HW.out.mono ?_
  rintro e w1 ⟨hb,ys,q,c,hys,hcl,rfl,hrow⟩
  have HB:=Lib.hid hb
  have HYS:=Lib.hid hys
  have hone:isL (bl s)=1 ↔ ∃ t,(wordsR s).1=[t]∧(wordsR s).2.2=0∧t.text=bl s∧t.kind=1:=by
    unfold wordsR
    split
    · rename_i hlong
      constructor
      · intro h
        have:=name_short h
        rw [bl_length] at this
        omega
      · rintro ⟨t,h,_⟩;cases h
    · rw [one_name]
      constructor
      · rintro ⟨t,a,h,h2⟩
        rw [h];exact ⟨t,rfl,rfl,h2⟩
      · rintro ⟨t,h,h0,h2⟩
        refine ⟨t,(scanL (bl s) 0).2.1,?_,h2⟩
        generalize scanL (bl s) 0=r at *
        obtain ⟨l1,a1,e1⟩:=r
        simp only at h h0 ⊢
        rw [h,h0]
  have HO:=Lib.hid hone
  clear hone hb hys hcl HW
  obtain ⟨a,ha⟩:∃ a,(wordsR s).2.1=a:=⟨_,rfl⟩
  obtain ⟨er,he⟩:∃ er,(wordsR s).2.2=er:=⟨_,rfl⟩
  rw [ha,he]
  rw [he] at HO
  clear ha he
  by_cases h0:er=0
  · subst h0
    match ys,HYS,hrow with
    | [],HYS,hrow =>
      clear hrow
      have hN:=Lib.hid (show ¬ isL (bl s)=1 from fun h=>by obtain ⟨t,h1,_⟩:=HO.out.1 h;rw [← HYS.out] at h1;cases h1)
      clear HO HYS
      go_wp2
      go_ret
      exact ⟨0,rfl,by simp [hN.out],HB.out⟩
    | [y],HYS,hrow =>
      obtain ⟨kd,tx,vl,at_,ee⟩:=y
      have hrd:∃ g,q=some ⟨g,0,none⟩∧w1.cell? ⟨g,0,none⟩=some (.int .i64 (kd:Nat))∧w1.cell? ⟨g,1,none⟩=some (.string tx):=by
        rcases hrow.2 with ⟨h0,_⟩ | ⟨g,cap,cur,h0,_,h3,_,_,_,h7⟩
        · cases h0
        · injection h0 with h0 _ _
          have hcur:∀ j u,j<4→(tokCells [⟨kd,tx,vl,at_,ee⟩])[j]?=some u→cur[j]?=some u:=fun j u hj hu=>by
            rw [← h7,List.getElem?_take,if_pos (by simpa using hj)] at hu
            simpa using hu
          exact ⟨g,h0,cell_of h3 (hcur 0 _ (by decide) rfl),cell_of h3 (hcur 1 _ (by decide) rfl)⟩
      obtain ⟨g,rfl,x0,x1⟩:=hrd
      clear hrow
      cases heq:(tx.toList == s.toList) with
      | false =>
        have hN:=Lib.hid (show ¬ isL (bl s)=1 from fun h=>by
          obtain ⟨t,h1,_,h2,_⟩:=HO.out.1 h
          rw [← HYS.out] at h1
          injection h1 with h1 _
          rw [← h1] at h2
          obtain rfl:tx=s:=bl_inj h2
          rw [beq_self] at heq;cases heq)
        clear HO HYS
        go_wp2
        go_ret
        exact ⟨0,rfl,by simp [hN.out],HB.out⟩
      | true =>
        have hts:tx=s:=by
          rcases Classical.em (tx=s) with h | h
          · exact h
          · rw [beq_ne h] at heq;cases heq
        have hK:=Lib.hid (show kd=1 ↔ isL (bl s)=1 from by
          rw [HO.out,← HYS.out]
          constructor
          · intro hk
            exact ⟨_,rfl,rfl,congrArg bl hts,hk⟩
          · rintro ⟨t,h1,_,_,h2⟩
            injection h1 with h1 _
            rw [← h1] at h2
            exact h2)
        clear HO HYS hts
        go_wp2
        go_ret
        exact ⟨kd,rfl,hK.out,HB.out⟩
    | y :: z :: ys,HYS,hrow =>
      clear hrow
      have hN:=Lib.hid (show ¬ isL (bl s)=1 from fun h=>by obtain ⟨t,h1,_⟩:=HO.out.1 h;rw [← HYS.out] at h1;simp at h1)
      have hne:((((y :: z :: ys).length:Nat):Int) != 1)=true:=by simp;omega
      clear HO HYS
      generalize (y :: z :: ys).length=n at *
      go_wp2
      go_ret
      exact ⟨0,rfl,by simp [hN.out],HB.out⟩
  · have hne:((er:Int) != 0)=true:=by simp;omega
    have hN:=Lib.hid (show ¬ isL (bl s)=1 from fun h=>by obtain ⟨t,_,h1,_⟩:=HO.out.1 h;exact h0 h1)
    clear HO HYS hrow
    generalize ys.length=n at *
    go_wp2
    go_ret
    exact ⟨0,rfl,by simp [hN.out],HB.out⟩
end Go.Proofs.YtpcniebkabkikaaGreatDoor
namespace Go.Proofs.YtpcniebkabkikaaGreatDoor
open Go Go.RowKit Go.Proofs.Mm
open Go.Proofs.Syn (K Ex Tm opLv opMark unMark opLv_le)
set_option maxRecDepth 100000 in
set_option maxHeartbeats 4000000 in
theorem refsign_d (o:Nat) (h1:1≤o) (h2:o≤17) (W:World):Calls Tryz.prog 87 #[.int .i64 (o:Nat)] W fun e w'=>∃ s,e=.returned (.string s)∧bl s=(if o≤14 then opMark o else unMark o)∧Below W.heap.size W w':=by
  obtain rfl | rfl | rfl | rfl | rfl | rfl | rfl | rfl | rfl | rfl | rfl | rfl | rfl | rfl | rfl | rfl | rfl:o=1 ∨ o=2 ∨ o=3 ∨ o=4 ∨ o=5 ∨ o=6 ∨ o=7 ∨ o=8 ∨ o=9 ∨ o=10 ∨ o=11 ∨ o=12 ∨ o=13 ∨ o=14 ∨ o=15 ∨ o=16 ∨ o=17:=by omega
  all_goals
    clear h1 h2
    go_enter Tryz.func87,Tryz.ntmps87
    go_wp2
    go_ret
    exact ⟨_,rfl,rfl,(Below.refl _ _).alloc (Nat.le_refl _) _⟩
set_option maxRecDepth 100000 in
set_option maxHeartbeats 4000000 in
theorem right_d (t:TmZ) (W:World):Calls Tryz.prog 84 #[tv t] W fun e w'=>e=.returned (.bool (rightZ t))∧Below W.heap.size W w':=by
  have HB:=Lib.hid (tb_below W t)
  have HI:=Lib.hid (fun (W:World)=>docIs_d t.name W)
  obtain ⟨k,v,s⟩:=t
  unfold tv tb at *
  unfold rightZ
  simp only at *
  by_cases h1:k=1
  · subst h1
    by_cases hv:0≤v
    · simp only [hv,decide_true,Bool.true_and,if_true]
      go_enter Tryz.func84,Tryz.ntmps84
      go_wp2
      go_ret
      exact ⟨rfl,HB.out⟩
    · simp only [hv,decide_false,Bool.false_and,if_true]
      go_enter Tryz.func84,Tryz.ntmps84
      go_wp2
      go_ret
      exact ⟨rfl,HB.out⟩
  by_cases h23:k=2 ∨ k=3
  · rw [if_neg h1,if_pos h23]
    by_cases hv:v=0
    · subst hv
      simp only [decide_true,Bool.true_and]
      rcases h23 with rfl | rfl
      all_goals
        go_enter Tryz.func84,Tryz.ntmps84
        go_wp2_with fail
        go_at_call 142
        refine (HI.out _).mono ?_
        rintro e w1 ⟨kk,rfl,hkk,hb1⟩
        have HB1:=Lib.hid (HB.out.trans (hb1.mono HB.out.size))
        have HK:=Lib.hid (show ((kk:Int) == 1)=(isL (bl s) == 1) from by rw [Bool.eq_iff_iff,beq_iff_eq,beq_iff_eq,← hkk];omega)
        clear hb1 hkk
        go_wp2_with fail
        go_ret
        exact ⟨by rw [← HK.out];rfl,HB1.out⟩
    · have hd:(decide (v=0) && isL (bl s) == 1)=false:=by simp [hv]
      rw [hd]
      clear hd
      have hvb:(v == 0)=false:=by simpa using hv
      rcases h23 with rfl | rfl
      all_goals
        go_enter Tryz.func84,Tryz.ntmps84
        go_wp2
        go_ret
        exact ⟨rfl,HB.out⟩
  have h2:¬ k=2:=fun e=>h23 (.inl e)
  have h3:¬ k=3:=fun e=>h23 (.inr e)
  rw [if_neg h1,if_neg h23]
  clear h23 HI
  by_cases h4:k=4
  · subst h4
    rw [if_pos rfl]
    clear h1 h2 h3
    cases hse:s.toList.isEmpty with
    | true =>
      obtain rfl:s=⟨#[]⟩:=bl_inj (by rw [empty_bl hse];rfl)
      clear hse
      by_cases ha:15≤v
      · by_cases hb:v≤17
        · have hd:decide (15≤v∧v≤17)=true:=decide_eq_true ⟨ha,hb⟩
          rw [hd]
          clear hd
          go_enter Tryz.func84,Tryz.ntmps84
          go_wp2
          go_ret
          exact ⟨rfl,HB.out⟩
        · have hd:decide (15≤v∧v≤17)=false:=decide_eq_false (by omega)
          rw [hd]
          clear hd
          go_enter Tryz.func84,Tryz.ntmps84
          go_wp2
          go_ret
          exact ⟨rfl,HB.out⟩
      · have hd:decide (15≤v∧v≤17)=false:=decide_eq_false (by omega)
        rw [hd]
        clear hd
        go_enter Tryz.func84,Tryz.ntmps84
        go_wp2
        go_ret
        exact ⟨rfl,HB.out⟩
    | false =>
      have hs0:(s.toList == ([]:List UInt8))=false:=by
        cases hl:s.toList with
        | nil=>rw [hl] at hse;cases hse
        | cons a b=>rfl
      have hs1:s.toList=[]→False:=by intro e;rw [e] at hse;cases hse
      rw [Bool.and_false]
      clear hse
      go_enter Tryz.func84,Tryz.ntmps84
      go_wp2
      go_ret
      exact ⟨rfl,HB.out⟩
  by_cases h5:k=5
  · subst h5
    rw [if_neg (by omega),if_pos rfl]
    clear h1 h2 h3 h4
    cases hse:s.toList.isEmpty with
    | true =>
      obtain rfl:s=⟨#[]⟩:=bl_inj (by rw [empty_bl hse];rfl)
      clear hse
      by_cases ha:1≤v
      · by_cases hb:v≤14
        · have hd:decide (1≤v∧v≤14)=true:=decide_eq_true ⟨ha,hb⟩
          rw [hd]
          clear hd
          go_enter Tryz.func84,Tryz.ntmps84
          go_wp2
          go_ret
          exact ⟨rfl,HB.out⟩
        · have hd:decide (1≤v∧v≤14)=false:=decide_eq_false (by omega)
          rw [hd]
          clear hd
          go_enter Tryz.func84,Tryz.ntmps84
          go_wp2
          go_ret
          exact ⟨rfl,HB.out⟩
      · have hd:decide (1≤v∧v≤14)=false:=decide_eq_false (by omega)
        rw [hd]
        clear hd
        go_enter Tryz.func84,Tryz.ntmps84
        go_wp2
        go_ret
        exact ⟨rfl,HB.out⟩
    | false =>
      have hs0:(s.toList == ([]:List UInt8))=false:=by
        cases hl:s.toList with
        | nil=>rw [hl] at hse;cases hse
        | cons a b=>rfl
      have hs1:s.toList=[]→False:=by intro e;rw [e] at hse;cases hse
      rw [Bool.and_false]
      clear hse
      go_enter Tryz.func84,Tryz.ntmps84
      go_wp2
      go_ret
      exact ⟨rfl,HB.out⟩
  have e1:(k == 1)=false:=by simpa using h1
  have e2:(k == 2)=false:=by simpa using h2
  have e3:(k == 3)=false:=by simpa using h3
  have e4:(k == 4)=false:=by simpa using h4
  have e5:(k == 5)=false:=by simpa using h5
  rw [if_neg h4,if_neg h5]
  go_enter Tryz.func84,Tryz.ntmps84
  go_wp2
  go_ret
  exact ⟨rfl,HB.out⟩
section
variable {C:Cl} {W:World}
set_option maxRecDepth 100000 in
set_option maxHeartbeats 4000000 in
theorem whole_d (l:List TmZ) (hl:l.length≤4611686018427387904) {q:Option Addr} {c:Nat} (hrow:TmRow C q l) (hr:CLe C (wC W)) :
    Calls Tryz.prog 45 #[.slice q l.length c] W fun e w'=>e=.returned (.bool (wholeZ l))∧Below W.heap.size W w':=by
  have HROW:=Lib.hid hrow
  have HR:=Lib.hid hr
  obtain ⟨n,hn⟩:∃ n,l.length=n:=⟨_,rfl⟩
  have HN:=Lib.hid hn
  rw [hn] at hl ⊢
  have HZ:=Lib.hid (show wholeZ l=(wholeF l 0 == some 1) from rfl)
  clear hrow hr hn
  go_enter Tryz.func45,Tryz.ntmps45
  go_wp2
  go_loopw [3,4] (fun v i wr=>∃ k m:Nat,k≤n∧m≤k∧v=.int .i64 m∧i=.int .i64 k∧Hid (wholeF l 0=wholeF (l.drop k) m)∧Hid (Below W.heap.size W wr)) (fun _ i _=>n - (intOf i).toNat)
  case atStart=>exact ⟨0,0,Nat.zero_le _,Nat.le_refl _,rfl,rfl,Lib.hid rfl,Lib.hid (Below.refl _ _)⟩
  case round =>
    obtain ⟨k,m,hk,hm,rfl,rfl,HF,HB⟩:=hrel
    by_cases hlt:k<n
    · have hk':k<l.length:=by rw [HN.out];exact hlt
      obtain ⟨t,ht,g,o,rfl,a0,a1,a2⟩:∃ t,l[k]=t∧∃ g o,q=some ⟨g,o,none⟩∧C ⟨g,o+k * 3,none⟩=some (.int .i64 t.kind)∧C ⟨g,o+k * 3+1,none⟩=some (.int .i64 t.value)∧C ⟨g,o+k * 3+2,none⟩=some (.string t.name):=⟨_,rfl,HROW.out k hk'⟩
      have hcl:=HR.out.trans (below_cle HB.out)
      have e0:wr.cell? ⟨g,o+k * 3,none⟩=some (.int .i64 t.kind):=hcl _ _ a0
      have e1:wr.cell? ⟨g,o+k * 3+1,none⟩=some (.int .i64 t.value):=hcl _ _ a1
      have e2:wr.cell? ⟨g,o+k * 3+2,none⟩=some (.string t.name):=hcl _ _ a2
      have HF2:=Lib.hid (show wholeF l 0=if rightZ t && decide (wantZ t≤m) then wholeF (l.drop (k+1)) (m - wantZ t+1) else none from by
        rw [HF.out,List.drop_eq_getElem_cons hk',wholeF_cons,ht])
      have hg:=Lib.hid (right_d t wr)
      have hw:=Lib.hid (fun W=>wants_d t W)
      have hwl:=want_le t
      have HTB:=Lib.hid (fun W=>tb_below W t)
      clear a0 a1 a2 hcl ht hk' HF
      unfold tv at hg hw
      have hki:(k:Int)<(n:Int):=by omega
      generalize hwz:wantZ t=wz at *
      clear hwz
      generalize tb t=tbt at *
      go_wp2_with fail
      go_at_call 84
      refine hg.out.mono ?_
      rintro e w1 ⟨rfl,hb1⟩
      have HB1:=Lib.hid (on_below HB.out hb1)
      have e0:w1.cell? ⟨g,o+k * 3,none⟩=some (.int .i64 t.kind):=below_cle hb1 _ _ e0
      have e1:w1.cell? ⟨g,o+k * 3+1,none⟩=some (.int .i64 t.value):=below_cle hb1 _ _ e1
      have e2:w1.cell? ⟨g,o+k * 3+2,none⟩=some (.string t.name):=below_cle hb1 _ _ e2
      clear hb1
      cases hgd:rightZ t with
      | false =>
        rw [hgd] at HF2
        clear hgd
        go_wp2
        go_ret
        refine ⟨?_,HB1.out⟩
        rw [HZ.out,HF2.out];rfl
      | true =>
        rw [hgd] at HF2
        clear hgd
        have HB2:=Lib.hid (on_alloc HB1.out tbt)
        have f0:(w1.alloc tbt).cell? ⟨g,o+k * 3,none⟩=some (.int .i64 t.kind):=below_cle ((Below.refl _ _).alloc (Nat.le_refl _) _) _ _ e0
        have f1:(w1.alloc tbt).cell? ⟨g,o+k * 3+1,none⟩=some (.int .i64 t.value):=below_cle ((Below.refl _ _).alloc (Nat.le_refl _) _) _ _ e1
        have f2:(w1.alloc tbt).cell? ⟨g,o+k * 3+2,none⟩=some (.string t.name):=below_cle ((Below.refl _ _).alloc (Nat.le_refl _) _) _ _ e2
        by_cases hmw:wz≤m
        · have hlt2:¬ ((m:Int)<(wz:Int)):=by omega
          have HF3:=Lib.hid (show wholeF l 0=wholeF (l.drop (k+1)) (m - wz+1) from by rw [HF2.out,decide_eq_true hmw];rfl)
          have HB3:=Lib.hid (on_alloc HB2.out tbt)
          clear HF2
          go_wp2_with (go_at_call 85;refine (hw.out _).mono ?_;rintro e w2 ⟨rfl,rfl⟩)
          refine ⟨⟨k+1,m - wz+1,by omega,by omega,?_,by go_num,HF3,HB3⟩,by simp [intOf];omega⟩
          exact congrArg (Value.int IntKind.i64) (by omega)
        · have hlt2:((m:Int)<(wz:Int)):=by omega
          have HF3:=Lib.hid (show wholeF l 0=none from by rw [HF2.out,decide_eq_false hmw];rfl)
          clear HF2
          go_wp2_with (go_at_call 85;refine (hw.out _).mono ?_;rintro e w2 ⟨rfl,rfl⟩)
          go_ret
          refine ⟨?_,HB2.out⟩
          rw [HZ.out,HF3.out];rfl
    · obtain rfl:k=n:=by omega
      have HF3:=Lib.hid (show wholeF l 0=some m from by rw [HF.out,List.drop_eq_nil_of_le (by rw [HN.out];exact Nat.le_refl _)];rfl)
      clear HF
      go_wp2
      go_ret
      refine ⟨?_,HB.out⟩
      rw [HZ.out,HF3.out]
      show Ending.returned (.bool ((m:Int) == 1))=.returned (.bool (some m == some 1))
      have:((m:Int) == 1)=(some m == some 1):=by rw [Bool.eq_iff_iff];simp;omega
      rw [this]
set_option maxRecDepth 100000 in
set_option maxHeartbeats 4000000 in
theorem begin_d (l:List TmZ) (hl:l.length≤4611686018427387904) (hrt:∀ t ∈ l,rightZ t=true) {q:Option Addr} {c:Nat} (hrow:TmRow C q l) (hr:CLe C (wC W)) (e b:Nat) (he:e<l.length) (hb:bgF ((l.take (e+1)).map tmN).reverse 1=some b) (hbe:b≤e+1) :
    Calls Tryz.prog 90 #[.slice q l.length c,.int .i64 (e:Nat)] W fun r w'=>r=.returned (.int .i64 ((e+1 - b:Nat):Int))∧Below W.heap.size W w':=by
  have HROW:=Lib.hid hrow
  have HR:=Lib.hid hr
  have HRT:=Lib.hid hrt
  have HBG:=Lib.hid hb
  obtain ⟨n,hn⟩:∃ n,l.length=n:=⟨_,rfl⟩
  have HN:=Lib.hid hn
  rw [hn] at hl he ⊢
  clear hrow hr hn hrt hb
  have hlen:((l.take (e+1)).map tmN).reverse.length=e+1:=by rw [List.length_reverse,List.length_map,List.length_take,HN.out];omega
  have HLN:=Lib.hid hlen
  have HGT:=Lib.hid (fun (k:Nat) (hk:k≤e)=>(show ∃ (hj:e - k<l.length),((l.take (e+1)).map tmN).reverse.drop k=tmN l[e - k] :: ((l.take (e+1)).map tmN).reverse.drop (k+1) from by
    have hj:e - k<l.length:=by rw [HN.out];omega
    refine ⟨hj,?_⟩
    rw [List.drop_eq_getElem_cons (by rw [hlen];omega)]
    congr 1
    rw [List.getElem_reverse,List.getElem_map,List.getElem_take]
    congr 2
    rw [List.length_map,List.length_take,HN.out]
    omega))
  clear hlen
  go_enter Tryz.func90,Tryz.ntmps90
  go_wp2
  go_loopw [5,6] (fun nd i wr=>∃ k m:Nat,k≤e+1∧m≤k∧nd=.int .i64 (m+1:Nat)∧i=.int .i64 ((e:Int) - (k:Int))∧Hid ((bgF (((l.take (e+1)).map tmN).reverse.drop k) (m+1)).map (·+k)=some b)∧Hid (Below W.heap.size W wr)) (fun _ i _=>(intOf i+1).toNat)
  case atStart=>exact ⟨0,0,Nat.zero_le _,Nat.le_refl _,rfl,by simp,Lib.hid (by rw [List.drop_zero,HBG.out];rfl),Lib.hid (Below.refl _ _)⟩
  case round =>
    obtain ⟨k,m,hk,hm,rfl,rfl,HF,HB⟩:=hrel
    by_cases hlt:k≤e
    · obtain ⟨hj,hd⟩:=HGT.out k hlt
      obtain ⟨t,ht,g,o,rfl,a0,a1,a2⟩:∃ t,l[e - k]=t∧∃ g o,q=some ⟨g,o,none⟩∧C ⟨g,o+(e - k) * 3,none⟩=some (.int .i64 t.kind)∧C ⟨g,o+(e - k) * 3+1,none⟩=some (.int .i64 t.value)∧C ⟨g,o+(e - k) * 3+2,none⟩=some (.string t.name):=⟨_,rfl,HROW.out (e - k) hj⟩
      have hcl:=HR.out.trans (below_cle HB.out)
      have e0:wr.cell? ⟨g,o+(e - k) * 3,none⟩=some (.int .i64 t.kind):=hcl _ _ a0
      have e1:wr.cell? ⟨g,o+(e - k) * 3+1,none⟩=some (.int .i64 t.value):=hcl _ _ a1
      have e2:wr.cell? ⟨g,o+(e - k) * 3+2,none⟩=some (.string t.name):=hcl _ _ a2
      have hrt:rightZ t=true:=HRT.out t (by rw [← ht];exact List.getElem_mem hj)
      have hw:=Lib.hid (fun W=>wants_d t W)
      have hwl:=want_le t
      have HB1:=Lib.hid (on_alloc HB.out (tb t))
      have HF2:=Lib.hid (show (bgR (1+k) (m+wantZ t) (((l.take (e+1)).map tmN).reverse.drop (k+1)))=some b from by
        have:=HF.out
        rw [hd,ht,bgF_cons,bgR_add,wtT_tm hrt] at this
        exact this)
      clear a0 a1 a2 hcl ht hj HF hrt hd
      unfold tv at hw
      have hz:¬ ((e:Int) - (k:Int)<0):=by omega
      have hge:(0:Int)≤(e:Int) - (k:Int):=by omega
      have hin:(e:Int) - (k:Int)<(n:Int):=by omega
      have htn:((e:Int) - (k:Int)).toNat=e - k:=by omega
      generalize hwz:wantZ t=wz at *
      clear hwz
      generalize tb t=tbt at *
      by_cases hz0:m+wz=0
      · have hm0:m=0:=by omega
        have hw0:wz=0:=by omega
        subst hm0 hw0
        have HE:=Lib.hid (show 1+k=b from by
          have:=HF2.out
          unfold bgR at this
          rw [if_pos rfl] at this
          injection this)
        clear HF2
        go_wp2_with (go_at_call 85;refine (hw.out _).mono ?_;rintro e w2 ⟨rfl,rfl⟩)
        go_ret
        refine ⟨?_,HB1.out⟩
        have:=HE.out
        exact congrArg (fun x=>Ending.returned (.int .i64 x)) (by omega)
      · obtain ⟨m',hm'⟩:∃ m',m+wz=m'+1:=⟨m+wz - 1,by omega⟩
        have HF3:=Lib.hid (show (bgF (((l.take (e+1)).map tmN).reverse.drop (k+1)) (m'+1)).map (·+(k+1))=some b from by
          have:=HF2.out
          rw [hm'] at this
          unfold bgR at this
          rw [if_neg (by omega),Nat.add_comm 1 k] at this
          exact this)
        have hne:((m:Int)+1 - 1+(wz:Int) == 0)=false:=by simp;omega
        have hne2:((m:Int)+(wz:Int) == 0)=false:=by simp;omega
        clear HF2
        go_wp2_with (go_at_call 85;refine (hw.out _).mono ?_;rintro e w2 ⟨rfl,rfl⟩)
        refine ⟨⟨k+1,m',by omega,by omega,?_,?_,HF3,HB1⟩,?_⟩
        · exact congrArg (Value.int IntKind.i64) (by push_cast;omega)
        · exact congrArg (Value.int IntKind.i64) (by push_cast;omega)
        · simp [intOf];omega
    · obtain rfl:k=e+1:=by omega
      exfalso
      have:=HF.out
      rw [List.drop_eq_nil_of_le (by rw [HLN.out];exact Nat.le_refl _)] at this
      cases this
end
end Go.Proofs.YtpcniebkabkikaaGreatDoor
namespace Go.Proofs.YtpcniebkabkikaaGreatDoor
open Go Go.RowKit Go.Proofs.Mm
theorem conv_one (n:Nat) (hn:n<256) (w:World):Sem.run Tryz.prog (convert 77 9 (.slice (some ⟨w.heap.size,0,none⟩) 1 1)) (w.alloc (.cells #[.int .u8 (n:Nat)] 5))=.ok (.string (sb [n])) (w.alloc (.cells #[.int .u8 (n:Nat)] 5)):=by
  have h:=run_convert_bytes_back (P:=Tryz.prog) (w.alloc (.cells #[.int .u8 (n:Nat)] 5)) 77 9 5 ⟨w.heap.size,0,none⟩ 1 [UInt8.ofNat n] (by kernel_rfl) (by kernel_rfl) (by kernel_rfl) (fun j hj=>by
    obtain rfl:j=0:=by simpa using hj
    show (w.alloc _).cell? ⟨w.heap.size,0,none⟩=_
    rw [World.cell?_alloc_new]
    show some (Value.int .u8 (n:Int))=some (.int .u8 (((UInt8.ofNat n).toNat:Nat):Int))
    rw [UInt8.toNat_ofNat',Nat.mod_eq_of_lt hn])
  exact h
theorem dgN_big {k:Nat} (h:9<k):dgN k=dgN (k / 10)++[48+k % 10]:=by rw [dgN_eq,if_neg (by omega)]
theorem dgN_one {k:Nat} (h:¬ 9<k):dgN k=[48+k]:=by rw [dgN_eq,if_pos (by omega)]
set_option maxRecDepth 100000 in
set_option maxHeartbeats 4000000 in
theorem digits_d (n:Nat) (hn:n≤9223372036854775807) (W:World):Calls Tryz.prog 86 #[.int .i64 (n:Nat)] W fun e w'=>∃ s,e=.returned (.string s)∧bl s=dgN n∧Below W.heap.size W w':=by
  have hlen:=dec_len0 20 n (by decide) (by omega)
  go_enter Tryz.func86,Tryz.ntmps86
  go_wp2
  go_loopw [0,3] (fun i s wr=>∃ (k:Nat) (t:ByteArray),k≤n∧i=.int .i64 (k:Nat)∧s=.string t∧t.size≤20∧Hid (dgN n=dgN k++bl t)∧Hid (Below W.heap.size W wr)) (fun i _ _=>(intOf i).toNat)
  case atStart=>exact ⟨n,⟨#[]⟩,Nat.le_refl _,rfl,rfl,by decide,Lib.hid (by rw [show bl ⟨#[]⟩=[] from rfl,List.append_nil]),Lib.hid (Below.refl _ _)⟩
  case round =>
    obtain ⟨k,t,hk,rfl,rfl,hts,HF,HB⟩:=hrel
    by_cases h9:9<k
    · have h9':(9:Int)<(k:Int):=by omega
      have hcv:=conv_one (48+k % 10) (by omega) wr
      rw [show ((48+k % 10:Nat):Int)=48+(k:Int) % 10 by omega] at hcv
      have h1:(sb [48+k % 10]).size=1:=rfl
      have HF2:=Lib.hid (show dgN n=dgN (k / 10)++bl (sb [48+k % 10]++t) from by
        rw [HF.out,dgN_big h9,bl_cat,bl_sb (fun c hc=>by rw [List.mem_singleton.1 hc];omega),List.append_assoc])
      have hl2:(sb [48+k % 10]++t).size≤20:=by
        have:=congrArg List.length HF2.out
        rw [List.length_append,bl_length] at this
        omega
      have HB2:=Lib.hid (on_alloc HB.out (.cells #[.int .u8 (48+(k:Int) % 10)] 5))
      generalize sb [48+k % 10]=dg at *
      clear HF
      go_wp2
      exact ⟨⟨k / 10,dg++t,by omega,by first | rfl | go_num,rfl,hl2,HF2,HB2⟩,by simp [intOf];omega⟩
    · have h9':¬ (9:Int)<(k:Int):=by omega
      have hcv:=conv_one (48+k) (by omega) wr
      rw [show ((48+k:Nat):Int)=48+(k:Int) by omega] at hcv
      have h1:(sb [48+k]).size=1:=rfl
      have HF2:=Lib.hid (show bl (sb [48+k]++t)=dgN n from by
        rw [HF.out,dgN_one h9,bl_cat,bl_sb (fun c hc=>by rw [List.mem_singleton.1 hc];omega)])
      have HB2:=Lib.hid (on_alloc HB.out (.cells #[.int .u8 (48+(k:Int))] 5))
      generalize sb [48+k]=dg at *
      clear HF
      go_wp2
      go_ret
      exact ⟨_,rfl,HF2.out,HB2.out⟩
end Go.Proofs.YtpcniebkabkikaaGreatDoor
namespace Go.Proofs.YtpcniebkabkikaaGreatDoor
open Go Go.RowKit Go.Proofs.Mm
open Go.Proofs.Syn (K Ex Tm opLv opMark unMark opLv_le)
theorem refsign_s (o:Nat) (h1:1≤o) (h2:o≤17) (W:World):Calls Tryz.prog 87 #[.int .i64 (o:Nat)] W fun e w'=>e=.returned (.string (sb (if o≤14 then opMark o else unMark o)))∧Below W.heap.size W w' :=
  (refsign_d o h1 h2 W).mono fun e w' ⟨s,h,hs,hb⟩=>⟨by rw [h,← hs,sb_bl],hb⟩
theorem digits_s (n:Nat) (hn:n≤9223372036854775807) (W:World):Calls Tryz.prog 86 #[.int .i64 (n:Nat)] W fun e w'=>e=.returned (.string (sb (dgN n)))∧Below W.heap.size W w' :=
  (digits_d n hn W).mono fun e w' ⟨s,h,hs,hb⟩=>⟨by rw [h,← hs,sb_bl],hb⟩
def TmCell (W:World) (q:Option Addr) (i:Nat) (t:TmZ):Prop:=∃ g o,q=some ⟨g,o,none⟩∧W.cell? ⟨g,o+i * 3,none⟩=some (.int .i64 t.kind)∧W.cell? ⟨g,o+i * 3+1,none⟩=some (.int .i64 t.value)∧W.cell? ⟨g,o+i * 3+2,none⟩=some (.string t.name)
theorem TmCell.on {W W':World} {q:Option Addr} {i:Nat} {t:TmZ} (h:TmCell W q i t) (hb:Below W.heap.size W W'):TmCell W' q i t:=by
  obtain ⟨g,o,h0,h1,h2,h3⟩:=h
  exact ⟨g,o,h0,below_cle hb _ _ h1,below_cle hb _ _ h2,below_cle hb _ _ h3⟩
def TmBlk (b:Nat) (k v:Int) (s:ByteArray) (a w:World):Prop:=w.cell? ⟨b,0,none⟩=some (.int .i64 k)∧w.cell? ⟨b,1,none⟩=some (.int .i64 v)∧w.cell? ⟨b,2,none⟩=some (.string s)∧Below a.heap.size a w
theorem TmBlk.on {b:Nat} {k v:Int} {s:ByteArray} {a w w':World} (h:TmBlk b k v s a w) (hb:Below w.heap.size w w'):TmBlk b k v s a w' :=
  ⟨below_cle hb _ _ h.1,below_cle hb _ _ h.2.1,below_cle hb _ _ h.2.2.1,on_below h.2.2.2 hb⟩
theorem TmBlk.new (W:World) (k v:Int) (s:ByteArray):TmBlk W.heap.size k v s W (W.alloc (.cells #[.int .i64 k,.int .i64 v,.string s] 45)):=by
  obtain ⟨a,b,c⟩:=three_tb W k v s
  exact ⟨a,b,c,(Below.refl _ _).alloc (Nat.le_refl _) _⟩
theorem wrapI_small {m:Nat} (h:m≤9223372036854775807):IntKind.i64.wrap (m:Int)=(m:Int):=by rw [IntKind.wrap_i64];omega
theorem wrapI_succ {m:Nat} (h:m≤1000):IntKind.i64.wrap ((m:Int)+1)=((m+1:Nat):Int):=by rw [IntKind.wrap_i64];omega
theorem wrap_succ {m:Nat} (h:m≤1000):wrap64 ((m:Int)+1)=((m+1:Nat):Int):=by unfold wrap64;omega
section
variable {W:World} {q:Option Addr} {n c i:Nat}
set_option maxRecDepth 100000 in
set_option maxHeartbeats 2000000 in
theorem text_num (v:Nat) (s:ByteArray) (hv:v≤9223372036854775807) (hi:i<n) (ht:TmCell W q i ⟨1,v,s⟩) :
    Calls Tryz.prog 46 #[.slice q n c,.int .i64 (i:Nat)] W fun e w'=>e=.returned (.string (sb (dgN v)))∧Below W.heap.size W w':=by
  obtain ⟨g,o,rfl,x0,x1,x2⟩:=ht
  have hii:(i:Int)<(n:Int):=by omega
  have hD:=Lib.hid (fun W=>digits_s v hv W)
  have hB:=Lib.hid (TmBlk.new W 1 v s)
  simp only at x0 x1 x2
  clear hi hv
  go_enter Tryz.func46,Tryz.ntmps46
  go_wp2_with fail
  go_at_call 86
  refine (hD.out _).mono ?_
  rintro e w1 ⟨rfl,hb⟩
  have HB:=Lib.hid (on_below hB.out.2.2.2 hb)
  clear hb
  go_wp2_with fail
  go_ret
  exact ⟨rfl,HB.out⟩
set_option maxRecDepth 100000 in
set_option maxHeartbeats 2000000 in
theorem text_nm (v:Int) (s:ByteArray) (hi:i<n) (ht:TmCell W q i ⟨2,v,s⟩) :
    Calls Tryz.prog 46 #[.slice q n c,.int .i64 (i:Nat)] W fun e w'=>e=.returned (.string s)∧Below W.heap.size W w':=by
  obtain ⟨g,o,rfl,x0,x1,x2⟩:=ht
  have hii:(i:Int)<(n:Int):=by omega
  have hB:=Lib.hid (TmBlk.new W 2 v s)
  simp only at x0 x1 x2
  clear hi
  go_enter Tryz.func46,Tryz.ntmps46
  go_wp2
  go_ret
  exact ⟨rfl,hB.out.2.2.2⟩
def TxC (q:Option Addr) (n c:Nat) (W:World) (i:Nat) (x:List Nat):Prop:=∀ W',Below W.heap.size W W'→Calls Tryz.prog 46 #[.slice q n c,.int .i64 (i:Nat)] W' fun e w'=>e=.returned (.string (sb x))∧Below W'.heap.size W' w'
def WiC (q:Option Addr) (n c:Nat) (W:World) (i lv:Nat) (x:List Nat):Prop:=∀ W',Below W.heap.size W W'→Calls Tryz.prog 88 #[.slice q n c,.int .i64 (i:Nat),.int .i64 (lv:Nat)] W' fun e w'=>e=.returned (.string (sb x))∧Below W'.heap.size W' w'
theorem cat_idx (s:ByteArray) (x:List Nat):s++(⟨#[91]⟩:ByteArray)++sb x++(⟨#[93]⟩:ByteArray)=sb (bl s++91 :: (x++[93])):=by
  rw [show bl s++91 :: (x++[93])=((bl s++[91])++x)++[93] by simp,sb_app,sb_app,sb_app,sb_bl];rfl
theorem cat_brk (x:List Nat):(⟨#[40]⟩:ByteArray)++sb x++(⟨#[41]⟩:ByteArray)=sb (40 :: (x++[41])):=by
  rw [show 40 :: (x++[41])=([40]++x)++[41] by simp,sb_app,sb_app];rfl
theorem cat_bin (x m y:List Nat):sb x++(⟨#[32]⟩:ByteArray)++sb m++(⟨#[32]⟩:ByteArray)++sb y=sb (x++32 :: (m++32 :: y)):=by
  rw [show x++32 :: (m++32 :: y)=(((x++[32])++m)++[32])++y by simp,sb_app,sb_app,sb_app,sb_app];rfl
end
end Go.Proofs.YtpcniebkabkikaaGreatDoor
namespace Go.Proofs.YtpcniebkabkikaaGreatDoor
open Go Go.RowKit Go.Proofs.Mm
open List renaming setIfInBounds_toArray→n1,set_cons_zero→n2,set_cons_succ→n3,getElem_toArray→n4,getElem_cons_zero→n5,getElem_cons_succ→n6
open Go.Proofs.Syn (K Ex Tm opLv opMark unMark opLv_le)
section
variable {W:World} {q:Option Addr} {n c i:Nat}
set_option maxRecDepth 100000 in
set_option maxHeartbeats 4000000 in
theorem text_idx (v:Int) (s:ByteArray) (x:List Nat) (hs:s.size≤140737488355327) (hx:x.length≤140737488355327) (ii:Nat) (e1:(ii:Int) - 1=(i:Int)) (hn:n≤1048576) (hi:ii<n) (ht:TmCell W q ii ⟨3,v,s⟩) (hT:TxC q n c W i x) :
    Calls Tryz.prog 46 #[.slice q n c,.int .i64 (ii:Nat)] W fun e w'=>e=.returned (.string (sb (bl s++91 :: (x++[93]))))∧Below W.heap.size W w':=by
  obtain ⟨g,o,rfl,x0,x1,x2⟩:=ht
  have hii:(ii:Int)<(n:Int):=by omega
  have hwi:wrap64 (i:Int)=(i:Int):=wrap_small (by omega)
  have hmx:Tryz.prog.follows .mixedOrders=true:=by kernel_rfl
  have hwi2:IntKind.i64.wrap (i:Int)=(i:Int):=by rw [IntKind.wrap_i64];omega
  have hB:=Lib.hid (TmBlk.new W 3 v s)
  have hsz:(sb x).size≤140737488355327:=by rw [sb_size];exact hx
  have HC:=Lib.hid (cat_idx s x)
  have HT:=Lib.hid hT
  simp only at x0 x1 x2
  clear hn hi hx hT
  generalize sb (bl s++91 :: (x++[93]))=res at *
  have z1:¬ (9223372036854775807<s.size+1):=by omega
  have z2:¬ (9223372036854775807<s.size+1+(sb x).size):=by omega
  have z3:¬ (9223372036854775807<s.size+1+(sb x).size+1):=by omega
  go_enter Tryz.func46,Tryz.ntmps46
  go_upto_region 8 with fail
  have hB0:=hB.out
  clear hB
  generalize W.heap.size=b at *
  generalize W.alloc _=W1 at *
  have hD:TmBlk b 3 v s W W1.drew:=⟨hB0.1,hB0.2.1,hB0.2.2.1,hB0.2.2.2.drew⟩
  clear hB0
  refine wp_region_held_drew (S:=fun w'=>w'.cell? ⟨b,0,none⟩=some (.int .i64 3)∧w'.cell? ⟨b,1,none⟩=some (.int .i64 v)∧w'.cell? ⟨b,2,none⟩=some (.string s)∧Below W.heap.size W w') hmx hD (fun hHeld=>?_)
  refine wpAnyH_take (i:=0) (v:=.pointer (some ⟨b,2,none⟩)) rfl (by kernel_rfl) (by kernel_rfl) (by kernel_rfl) (fun _ _ _ h=>h) (Or.inl ⟨by rfl,fun w hSw=>by obtain ⟨s0,s1,s2,s3⟩:=hSw;go_simp⟩) (by assumption) ?_
  try simp only [Act.put,n1,n2,n3,n4,n5,n6]
  refine wpAnyH_take (i:=1) (v:=.string s) rfl (by kernel_rfl) (by kernel_rfl) (by kernel_rfl) (fun _ _ _ h=>h) (Or.inl ⟨by rfl,fun w hSw=>by obtain ⟨s0,s1,s2,s3⟩:=hSw;go_simp⟩) (by assumption) ?_
  try simp only [Act.put,n1,n2,n3,n4,n5,n6]
  refine wpAnyH_take (i:=2) (v:=.string (s++⟨#[91]⟩)) rfl (by kernel_rfl) (by kernel_rfl) (by kernel_rfl) (fun _ _ _ h=>h) (Or.inl ⟨by rfl,fun w hSw=>by obtain ⟨s0,s1,s2,s3⟩:=hSw;go_simp⟩) (by assumption) ?_
  try simp only [Act.put,n1,n2,n3,n4,n5,n6]
  refine wpAnyH_take (i:=3) (v:=.slice (some ⟨g,o,none⟩) n c) rfl (by kernel_rfl) (by kernel_rfl) (by kernel_rfl) (fun _ _ _ h=>h) (Or.inl ⟨by rfl,fun w hSw=>by obtain ⟨s0,s1,s2,s3⟩:=hSw;go_simp⟩) (by assumption) ?_
  try simp only [Act.put,n1,n2,n3,n4,n5,n6]
  refine wpAnyH_take (i:=4) (v:=.int .i64 (ii:Nat)) rfl (by kernel_rfl) (by kernel_rfl) (by kernel_rfl) (fun _ _ _ h=>h) (Or.inl ⟨by rfl,fun w hSw=>by obtain ⟨s0,s1,s2,s3⟩:=hSw;go_simp⟩) (by assumption) ?_
  try simp only [Act.put,n1,n2,n3,n4,n5,n6]
  refine wpAnyH_take (i:=5) (v:=.int .i64 (i:Nat)) rfl (by kernel_rfl) (by kernel_rfl) (by kernel_rfl) (fun _ _ _ h=>h) (Or.inl ⟨by rfl,fun w hSw=>by obtain ⟨s0,s1,s2,s3⟩:=hSw;go_simp⟩) (by assumption) ?_
  try simp only [Act.put,n1,n2,n3,n4,n5,n6]
  refine wpAnyH_ready (rs:=[6]) (by kernel_rfl) (by simp) ?_
  refine AllReadyH.cons rfl (fun K1 hK1=>?_) AllReadyH.nil
  go_simp
  go_at_call 46
  refine (HT.out _ (show TmBlk b 3 v s W _ from by assumption).2.2.2).mono ?_
  rintro e w' ⟨rfl,hb'⟩
  have hk':TmBlk b 3 v s W _:=TmBlk.on (show TmBlk b 3 v s W _ from by assumption) hb'
  refine hK1.out _ _ hk' (fun hHeld=>?_)
  try simp only [Act.put,n1,n2,n3,n4,n5,n6]
  refine wpAnyH_take (i:=7) (v:=.string (s++⟨#[91]⟩++sb x)) rfl (by kernel_rfl) (by kernel_rfl) (by kernel_rfl) (fun _ _ _ h=>h) (Or.inl ⟨by rfl,fun w hSw=>by obtain ⟨s0,s1,s2,s3⟩:=hSw;go_simp⟩) (by assumption) ?_
  try simp only [Act.put,n1,n2,n3,n4,n5,n6]
  refine wpAnyH_take (i:=8) (v:=.string (s++⟨#[91]⟩++sb x++⟨#[93]⟩)) rfl (by kernel_rfl) (by kernel_rfl) (by kernel_rfl) (fun _ _ _ h=>h) (Or.inl ⟨by rfl,fun w hSw=>by obtain ⟨s0,s1,s2,s3⟩:=hSw;go_simp⟩) (by assumption) ?_
  try simp only [Act.put,n1,n2,n3,n4,n5,n6]
  refine wpAnyH_take (i:=9) (v:=.string (s++⟨#[91]⟩++sb x++⟨#[93]⟩)) rfl (by kernel_rfl) (by kernel_rfl) (by kernel_rfl) (fun _ _ _ h=>h) (Or.inl ⟨by rfl,fun w hSw=>by obtain ⟨s0,s1,s2,s3⟩:=hSw;go_simp⟩) (by assumption) ?_
  try simp only [Act.put,n1,n2,n3,n4,n5,n6]
  refine wpAnyH_done (by kernel_rfl) ?_ _
  go_wp2
  go_ret
  exact ⟨by rw [← HC.out];rfl,hk'.2.2.2⟩
end
end Go.Proofs.YtpcniebkabkikaaGreatDoor
namespace Go.Proofs.YtpcniebkabkikaaGreatDoor
open Go Go.RowKit Go.Proofs.Mm
open Go.Proofs.Syn (K Ex Tm opLv opMark unMark opLv_le)
section
variable {W:World} {q:Option Addr} {n c i:Nat}
set_option maxRecDepth 100000 in
set_option maxHeartbeats 4000000 in
theorem text_un (o1:Nat) (h1:15≤o1) (h2:o1≤17) (s:ByteArray) (x:List Nat) (hx:x.length≤140737488355327) (ii:Nat) (e1:(ii:Int) - 1=(i:Int)) (hn:n≤1048576) (hi:ii<n) (ht:TmCell W q ii ⟨4,o1,s⟩) (hT:WiC q n c W i 6 x) :
    Calls Tryz.prog 46 #[.slice q n c,.int .i64 (ii:Nat)] W fun e w'=>e=.returned (.string (sb (unMark o1++x)))∧Below W.heap.size W w':=by
  obtain ⟨g,o,rfl,x0,x1,x2⟩:=ht
  have hii:(ii:Int)<(n:Int):=by omega
  have hwi:wrap64 (i:Int)=(i:Int):=wrap_small (by omega)
  have hB:=Lib.hid (TmBlk.new W 4 o1 s)
  have hsz:(sb x).size≤140737488355327:=by rw [sb_size];exact hx
  have hum:=(mark_len ⟨o1,by omega⟩).2
  have hsu:(sb (unMark o1)).size≤2:=by rw [sb_size];exact hum
  have hS:=Lib.hid (fun W=>(by have:=refsign_s o1 (by omega) h2 W;rw [if_neg (by omega)] at this;exact this:Calls Tryz.prog 87 #[.int .i64 (o1:Nat)] W fun e w'=>e=.returned (.string (sb (unMark o1)))∧Below W.heap.size W w'))
  have h6:((6:Nat):Int)=6:=rfl
  unfold WiC at hT
  rw [h6] at hT
  have HT:=Lib.hid hT
  clear h6
  have HC:=Lib.hid (sb_app (unMark o1) x)
  simp only at x0 x1 x2
  clear hn hi hx hT hum h1 h2
  have z1:¬ (9223372036854775807<(sb (unMark o1)).size+(sb x).size):=by omega
  generalize unMark o1=um at *
  go_enter Tryz.func46,Tryz.ntmps46
  go_wp2_with fail
  go_at_call 87
  refine (hS.out _).mono ?_
  rintro e w1 ⟨rfl,hb⟩
  have HB1:=Lib.hid (on_below hB.out.2.2.2 hb)
  clear hb
  go_wp2_with fail
  go_at_call 88
  refine (HT.out _ HB1.out).mono ?_
  rintro e w2 ⟨rfl,hb⟩
  have HB2:=Lib.hid (on_below HB1.out hb)
  clear hb
  go_wp2_with fail
  go_ret
  exact ⟨by rw [HC.out];rfl,HB2.out⟩
end
end Go.Proofs.YtpcniebkabkikaaGreatDoor
namespace Go.Proofs.YtpcniebkabkikaaGreatDoor
open Go Go.RowKit Go.Proofs.Mm
open Go.Proofs.Syn (K Ex Tm opLv opMark unMark opLv_le)
section
variable {W:World} {q:Option Addr} {n c i:Nat}
set_option maxRecDepth 100000 in
set_option maxHeartbeats 4000000 in
theorem within_d (t:TmZ) (hr:rightZ t=true) (x:List Nat) (lv:Nat) (hx:x.length≤140737488355327) (hi:i<n) (ht:TmCell W q i t) (hT:TxC q n c W i x) :
    WiC q n c W i lv (if lvT (tmN t)<lv then 40 :: (x++[41]) else x):=by
  intro V hV
  have ht':=ht.on hV
  obtain ⟨g,o,rfl,x0,x1,x2⟩:=ht'
  have hii:(i:Int)<(n:Int):=by omega
  have hsz:(sb x).size≤140737488355327:=by rw [sb_size];exact hx
  have hR:=Lib.hid (fun W=>rank_d t hr W)
  have hTb:=Lib.hid (fun W=>tb_below W t)
  have HT:=Lib.hid (hT V hV)
  have HC:=Lib.hid (cat_brk x)
  have HN:=Lib.hid (show sb x=sb x from rfl)
  generalize tb t=tbt at *
  unfold tv at hR
  clear hi hx hT ht hV hr
  obtain ⟨r,hrr⟩:∃ r,lvT (tmN t)=r:=⟨_,rfl⟩
  rw [hrr] at hR ⊢
  clear hrr
  by_cases hlt:r<lv
  · have hlt':(r:Int)<(lv:Int):=by omega
    rw [if_pos hlt]
    clear hlt
    go_enter Tryz.func88,Tryz.ntmps88
    go_wp2_with fail
    go_at_call 46
    refine HT.out.mono ?_
    rintro e w1 ⟨rfl,hb⟩
    have HB1:=Lib.hid hb
    have y0:=below_cle hb _ _ x0
    have y1:=below_cle hb _ _ x1
    have y2:=below_cle hb _ _ x2
    unfold wC at y0 y1 y2
    clear hb x0 x1 x2
    go_wp2_with (go_at_call 48;refine (hR.out _).mono ?_;rintro e w2 ⟨rfl,rfl⟩)
    go_ret
    exact ⟨by rw [← HC.out];rfl,on_alloc HB1.out _⟩
  · have hlt':¬ (r:Int)<(lv:Int):=by omega
    rw [if_neg hlt]
    clear hlt
    go_enter Tryz.func88,Tryz.ntmps88
    go_wp2_with fail
    go_at_call 46
    refine HT.out.mono ?_
    rintro e w1 ⟨rfl,hb⟩
    have HB1:=Lib.hid hb
    have y0:=below_cle hb _ _ x0
    have y1:=below_cle hb _ _ x1
    have y2:=below_cle hb _ _ x2
    unfold wC at y0 y1 y2
    clear hb x0 x1 x2
    go_wp2_with (go_at_call 48;refine (hR.out _).mono ?_;rintro e w2 ⟨rfl,rfl⟩)
    go_ret
    exact ⟨rfl,on_alloc HB1.out _⟩
end
end Go.Proofs.YtpcniebkabkikaaGreatDoor
