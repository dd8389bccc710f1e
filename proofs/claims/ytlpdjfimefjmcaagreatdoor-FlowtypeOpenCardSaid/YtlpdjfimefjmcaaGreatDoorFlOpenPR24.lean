/- The parser's state in memory: its words and where it stands. Sign, Arity and BySign of package ops, in every memory. Plain: what is read has no more terms than words; what a word's sign says at a level. The parser's small readers of operations: levelOf, unarySign; what a word's sign says. Rows of te -/
import Derived.Test.YtlpdjfimefjmcaaGreatDoorFlOpenPR23
import Derived.Test.YtlpdjfimefjmcaaGreatDoorFlOpenPR1
import Derived.Test.YtlpdjfimefjmcaaGreatDoorFlOpenPR2
import Derived.WalkLawsBesides
import Derived.Test.YtlpdjfimefjmcaaGreatDoorProg
import Derived.WalkKit
import Derived.Deep.DeepCutAuto
import Derived.Deep.CutBlock
import Derived.LoopTactic
import Derived.Lib.Strings
import Derived.Lib.Hide
import Derived.Maps.AppendAt
open Go.Lib (hid)
namespace Go.Proofs.YtlpdjfimefjmcaaGreatDoor.Q
open Go Go.RowKit Go.Proofs.Mm
def sb (l:List Nat):ByteArray:=⟨(l.map UInt8.ofNat).toArray⟩
theorem sb_bl (t:ByteArray):sb (bl t)=t:=by
 unfold sb bl
 rw [List.map_map]
 have:(UInt8.ofNat ∘ UInt8.toNat)=id:=by funext x;simp
 rw [this,List.map_id]
theorem eq_text (t s:ByteArray):(t.toList == s.toList)=(bl t == bl s):=by
 rw [Bool.eq_iff_iff,beq_iff_eq,beq_iff_eq,Lib.toList_data,Lib.toList_data]
 constructor
 ·intro h;unfold bl;rw [h]
 ·intro h;rw [bl_inj h]
def keyOf (x:It):Syn.K:=⟨x.k,bl x.t,x.v⟩
def Tk (ys:List It) (i:Nat):Option Syn.K:=(ys[i]?).map keyOf
def tk (ys:List It) (len i:Nat):It:=ys.getD i ⟨0,⟨#[]⟩,0,len,0⟩
def Ws (ys:List It):Prop:=(∀x∈ys,Good x.k (bl x.t) x.v)∧ys.length≤65536
theorem Tk_none {ys:List It} {i:Nat} (h:ys.length≤i):Tk ys i=none:=by unfold Tk;rw [List.getElem?_eq_none h];rfl
theorem Tk_some {ys:List It} {len i:Nat} (h:i<ys.length):Tk ys i=some (keyOf (tk ys len i)):=by
 unfold Tk tk;rw [List.getElem?_eq_getElem h,List.getD_eq_getElem?_getD,List.getElem?_eq_getElem h];rfl
theorem tk_end (ys:List It) (len:Nat) {i:Nat} (h:ys.length≤i):tk ys len i=⟨0,⟨#[]⟩,0,len,0⟩:=by
 unfold tk;rw [List.getD_eq_getElem?_getD,List.getElem?_eq_none h];rfl
theorem tk_good {ys:List It} (hw:Ws ys) (len:Nat) {i:Nat} (h:i<ys.length):Good (tk ys len i).k (bl (tk ys len i).t) (tk ys len i).v:=by
 refine hw.1 _ ?_
 unfold tk;rw [List.getD_eq_getElem?_getD,List.getElem?_eq_getElem h];exact List.getElem_mem h
def Mk (s:List Nat):Bool:=s != [] && (wordL s).1 == s.length && ((wordL s).2 == 2 || (wordL s).2 == 4)
theorem is_text {ys:List It} (hw:Ws ys) (len i:Nat) {s:List Nat} (hs:Mk s=true):(bl (tk ys len i).t == s)=Syn.is (Tk ys) i s:=by
 unfold Mk at hs
 simp only [Bool.and_eq_true,bne_iff_ne,beq_iff_eq,Bool.or_eq_true] at hs
 by_cases h:i<ys.length
 ·have hg:=tk_good hw len h
  unfold Syn.is
  rw [Tk_some (len:=len) h]
  simp only [keyOf]
  by_cases he:bl (tk ys len i).t=s
  ·have hk:=hg.word
   rw [he] at hk
   rw [hk] at hs
   rw [he]
   rcases hs.2 with e|e <;> simp only at e <;> simp [e]
  ·simp [he]
 ·rw [tk_end ys len (by omega)]
  unfold Syn.is
  rw [Tk_none (by omega)]
  rw [beq_eq_false_iff_ne]
  intro e
  exact hs.1.1 e.symm
theorem named_kind (ys:List It) (len i:Nat):(((tk ys len i).k:Int) == 1)=Syn.named (Tk ys) i:=by
 by_cases h:i<ys.length
 ·unfold Syn.named;rw [Tk_some (len:=len) h];simp only [keyOf];rw [Bool.eq_iff_iff,beq_iff_eq,beq_iff_eq];omega
 ·rw [tk_end ys len (by omega)];unfold Syn.named;rw [Tk_none (by omega)];rfl
structure PS (ys:List It) (len bp bw:Nat) (vp:Value) (w:World) (i:Nat):Prop where
 st:∃c,w.heap[bp]?=some (.cells #[.slice (some ⟨bw,4*i,none⟩) (ys.length+1 - i) c,vp] 165 (0,0))∧ys.length+1 - i≤c∧c≤maxLen
 toks:∃arr,w.heap[bw]?=some (.cells arr 163 (0,0))∧∀j,j≤ys.length→arr[4*j]?=some (.int .i64 ((tk ys len j).k:Nat))∧arr[4*j+1]?=some (.string (tk ys len j).t)∧arr[4*j+2]?=some (.int .i64 ((tk ys len j).v:Nat))∧arr[4*j+3]?=some (.int .i64 ((tk ys len j).a:Nat))
 le:i≤ys.length
 few:ys.length≤65536
theorem cell_of {w:World} {b j:Nat} {arr:Array Value} {T:TypeId} {v:Value} (h:w.heap[b]?=some (.cells arr T (0,0))) (hv:arr[j]?=some v):w.cell? ⟨b,j,none⟩=some v:=by
 rw [cell_of_row w b j arr T (0,0) h];exact hv
theorem free_of {w:World} {b j:Nat} {arr:Array Value} {T:TypeId} (h:w.heap[b]?=some (.cells arr T (0,0))):w.frozen? ⟨b,j,none⟩=false:=by
 simp [World.frozen?,h]
theorem heap_set {w:World} {b:Nat} {arr:Array Value} {T:TypeId} (h:w.heap[b]?=some (.cells arr T (0,0))) (j:Nat) (v:Value):(w.setCell ⟨b,j,none⟩ v).heap[b]?=some (.cells (arr.setIfInBounds j v) T (0,0)):=by
 have hlt:=(Array.getElem?_eq_some_iff.1 h).1
 simp only [World.setCell,Array.getElem?_modify,h,Option.map_some,if_true]
 rfl
theorem heap_new (w:World) (o:Obj) {k:Nat} {x:Obj} (h:w.heap[k]?=some x):(w.alloc o).heap[k]?=some x:=by
 rw [Below.heap_alloc _ _ _ (heap_lt h)];exact h
theorem heap_other {w:World} {b j k:Nat} {v:Value} {x:Obj} (h:w.heap[k]?=some x) (hn:k≠b):(w.setCell ⟨b,j,none⟩ v).heap[k]?=some x:=by
 rw [Below.heap_setCell _ _ _ _ hn];exact h
theorem PS.ne {ys:List It} {len bp bw i:Nat} {vp:Value} {w:World} (h:PS ys len bp bw vp w i):bw≠bp:=by
 obtain ⟨c,h1,_⟩:=h.st
 obtain ⟨arr,h2,_⟩:=h.toks
 rintro rfl
 have:=h1.symm.trans h2
 simp at this
theorem PS.raw {ys:List It} {len bp bw i:Nat} {vp:Value} {w:World} (h:PS ys len bp bw vp w i) :
 ∃c,w.cell? ⟨bp,0,none⟩=some (.slice (some ⟨bw,4*i,none⟩) (ys.length+1 - i) c)∧w.frozen? ⟨bp,0,none⟩=false∧ys.length+1 - i≤c∧c≤9223372036854775807 ∧
  w.cell? ⟨bw,4*i,none⟩=some (.int .i64 ((tk ys len i).k:Nat))∧w.cell? ⟨bw,4*i+1,none⟩=some (.string (tk ys len i).t)∧w.cell? ⟨bw,4*i+2,none⟩=some (.int .i64 ((tk ys len i).v:Nat))∧w.cell? ⟨bw,4*i+3,none⟩=some (.int .i64 ((tk ys len i).a:Nat)):=by
 obtain ⟨c,h1,h2,h3⟩:=h.st
 obtain ⟨arr,h4,h5⟩:=h.toks
 obtain ⟨a0,a1,a2,a3⟩:=h5 i h.le
 exact ⟨c,cell_of h1 rfl,free_of h1,h2,by simpa [maxLen] using h3,cell_of h4 a0,cell_of h4 a1,cell_of h4 a2,cell_of h4 a3⟩
theorem PS.chg {ys:List It} {len bp bw i:Nat} {vp:Value} {w w':World} (h:PS ys len bp bw vp w i) {S:Nat→Prop} (hc:Chg S w w') (h1:¬S bp) (h2:¬S bw):PS ys len bp bw vp w' i:=by
 obtain ⟨⟨c,a1,a2⟩,⟨arr,b1,b2⟩,h3,h4⟩:=h
 exact ⟨⟨c,hc.heap a1 h1,a2⟩,⟨arr,hc.heap b1 h2,b2⟩,h3,h4⟩
theorem PS.lt {ys:List It} {len bp bw i:Nat} {vp:Value} {w:World} (h:PS ys len bp bw vp w i):bp<w.heap.size∧bw<w.heap.size:=by
 obtain ⟨⟨c,a1,a2⟩,⟨arr,b1,b2⟩,h3,h4⟩:=h
 exact ⟨heap_lt a1,heap_lt b1⟩
def gv (er a:Int):List PanicEntry:=[{ v:=.iface 161 (.agg #[.int .i64 er,.int .i64 (-1),.int .i64 a]),recovered:=false }]
def Ret {α:Type} (ys:List It) (len:Nat) (S:Nat→Prop) (w:World) (r:Syn.R α) (ok:α→Nat→Ending→World→Prop) (e:Ending) (w':World):Prop :=
 Chg S w w'∧match r with
 | .error (er,k)=>e=.panicked (gv er ((tk ys len k).a:Nat))
 | .ok (x,j)=>ok x j e w'
section
variable {ys:List It} {len bp bw i:Nat} {vp:Value} {w:World}
theorem is_ps (h:PS ys len bp bw vp w i) (s:ByteArray):Calls Tryz.prog 139 #[.pointer (some ⟨bp,0,none⟩),.string s] w fun e w'=>e=.returned (.bool ((tk ys len i).t.toList == s.toList))∧w=w':=by
 obtain ⟨c,h0,hf,hc,hc2,h1,h2,h3,h4⟩:=h.raw
 have hle:=h.le
 have hm:0<ys.length+1 - i:=by omega
 clear h hf hc hc2 h1 h3 h4
 generalize ys.length+1 - i=m at *
 generalize 4*i=o at *
 go_enter Tryz.func139,Tryz.ntmps139
 go_wp2
 go_ret
 exact ⟨rfl,rfl⟩
theorem isKind_ps (h:PS ys len bp bw vp w i) (s:Int):Calls Tryz.prog 167 #[.pointer (some ⟨bp,0,none⟩),.int .i64 s] w fun e w'=>e=.returned (.bool (((tk ys len i).k:Int) == s))∧w=w':=by
 obtain ⟨c,h0,hf,hc,hc2,h1,h2,h3,h4⟩:=h.raw
 have hle:=h.le
 have hm:0<ys.length+1 - i:=by omega
 clear h hf hc hc2 h2 h3 h4
 generalize ys.length+1 - i=m at *
 generalize 4*i=o at *
 go_enter Tryz.func167,Tryz.ntmps167
 go_wp2
 go_ret
 exact ⟨rfl,rfl⟩
theorem ps_next (h:PS ys len bp bw vp w i) (hi:i<ys.length) {w':World} (hc:Chg (fun k=>k=bp) w w')
 (h0:∃c,w'.heap[bp]?=some (.cells #[.slice (some ⟨bw,4*i+4,none⟩) (ys.length+1 - i - 1) c,vp] 165 (0,0))∧ys.length+1 - i - 1≤c∧c≤maxLen):PS ys len bp bw vp w' (i+1):=by
 obtain ⟨c,h0,h1,h2⟩:=h0
 obtain ⟨arr,h4,h5⟩:=h.toks
 refine ⟨⟨c,?_,by omega,h2⟩,⟨arr,hc.heap h4 h.ne,h5⟩,hi,h.few⟩
 rw [h0,show 4*(i+1)=4*i+4 by omega,show ys.length+1 - (i+1)=ys.length+1 - i - 1 by omega]
theorem take_ps (h:PS ys len bp bw vp w i) (hi:i<ys.length):Calls Tryz.prog 140 #[.pointer (some ⟨bp,0,none⟩)] w fun e w'=>e=.returned (.agg #[.int .i64 ((tk ys len i).k:Nat),.string (tk ys len i).t,.int .i64 ((tk ys len i).v:Nat),.int .i64 ((tk ys len i).a:Nat)])∧Chg (fun k=>k=bp) w w'∧PS ys len bp bw vp w' (i+1):=by
 obtain ⟨c,h0,hf,hc,hc2,h1,h2,h3,h4⟩:=h.raw
 obtain ⟨hlt,hlb⟩:=h.lt
 have hfew:=h.few
 obtain ⟨c',g0,g1,g2⟩:=h.st
 have hcc:c'=c:=by
  have:=(cell_of g0 (j:=0) rfl).symm.trans h0
  simpa using this
 subst hcc
 have HP:=hid (fun w' hc h0=>ps_next (w':=w') h hi hc h0)
 have HG:=hid g0
 have hm:2≤ys.length+1 - i:=by omega
 clear h g0 g1
 have hm2:ys.length+1 - i≤100000:=by omega
 generalize ys.length+1 - i=m at *
 generalize 4*i=o at *
 have hm1:0<m:=by omega
 have hm3:1≤m:=by omega
 have hm4:1≤c':=by omega
 have hm5:¬c'=1:=by omega
 go_enter Tryz.func140,Tryz.ntmps140
 go_wp2
 refine bodyPost_ret (v:=.agg #[.int .i64 ((tk ys len i).k:Nat),.string (tk ys len i).t,.int .i64 ((tk ys len i).v:Nat),.int .i64 ((tk ys len i).a:Nat)]) (by simp [results,Tryz.results140,go_sem]) rfl ?_
 have hC:=(((Chg.refl (fun k=>k=bp) w).setCell (p:=⟨bp,0,none⟩) (.inl rfl) (.slice (some ⟨bw,o+4,none⟩) (m - 1) (c' - 1))).alloc (.cells #[.int .i64 ((tk ys len i).k:Nat),.string (tk ys len i).t,.int .i64 ((tk ys len i).v:Nat),.int .i64 ((tk ys len i).a:Nat)] 163)).alloc (.cells #[.int .i64 ((tk ys len i).k:Nat),.string (tk ys len i).t,.int .i64 ((tk ys len i).v:Nat),.int .i64 ((tk ys len i).a:Nat)] 163)
 refine ⟨rfl,hC,HP.out _ hC ⟨c' - 1,heap_new _ _ (heap_new _ _ (heap_set HG.out 0 _)),by omega,by omega⟩⟩
theorem faultAt_any (a er:Int) (w:World) :
 Calls Tryz.prog 112 #[.int .i64 a,.int .i64 er] w fun e w'=>e=.returned (.agg #[.int .i64 er,.int .i64 (-1),.int .i64 a])∧w'=w.alloc (.cells #[.int .i64 er,.int .i64 (-1),.int .i64 a] 33):=by
 go_enter Tryz.func112,Tryz.ntmps112
 go_wp2
 exact bodyPost_ret (v:=.agg #[.int .i64 er,.int .i64 (-1),.int .i64 a]) (by simp [results,Tryz.results112,go_sem]) rfl ⟨rfl,rfl⟩
theorem fail_ps (h:PS ys len bp bw vp w i) (er:Int) (S:Nat→Prop):Calls Tryz.prog 138 #[.pointer (some ⟨bp,0,none⟩),.int .i64 er] w fun e w'=>e=.panicked (gv er ((tk ys len i).a:Nat))∧Chg S w w':=by
 obtain ⟨c,h0,hf,hc,hc2,h1,h2,h3,h4⟩:=h.raw
 have hle:=h.le
 have hm:0<ys.length+1 - i:=by omega
 clear h hf hc hc2 h1 h2 h3
 generalize ys.length+1 - i=m at *
 generalize 4*i=o at *
 generalize (((tk ys len i).a:Nat):Int)=a at *
 go_enter Tryz.func138,Tryz.ntmps138
 go_wp2_with (go_at_call 112;refine (faultAt_any _ _ _).mono ?_;rintro e w' ⟨rfl,rfl⟩)
 exact ⟨rfl,rfl,(Chg.refl S w).alloc _⟩
theorem skip_yes (h:PS ys len bp bw vp w i) (hi:i<ys.length) (s:ByteArray) (ht:((tk ys len i).t.toList == s.toList)=true) :
 Calls Tryz.prog 115 #[.pointer (some ⟨bp,0,none⟩),.string s] w fun e w'=>e=.returned (.bool true)∧Chg (fun k=>k=bp) w w'∧PS ys len bp bw vp w' (i+1):=by
 have h1:=is_ps h s
 rw [ht] at h1
 clear ht
 go_enter Tryz.func115,Tryz.ntmps115
 go_wp2_with (go_at_call 139;refine h1.mono ?_;rintro e w' ⟨rfl,rfl⟩)
 go_at_call 140
 refine (take_ps h hi).mono ?_
 rintro e w' ⟨rfl,hc,hp⟩
 go_wp2
 go_ret
 exact ⟨rfl,hc,hp⟩
theorem skip_no (h:PS ys len bp bw vp w i) (s:ByteArray) (ht:((tk ys len i).t.toList == s.toList)=false) :
 Calls Tryz.prog 115 #[.pointer (some ⟨bp,0,none⟩),.string s] w fun e w'=>e=.returned (.bool false)∧w=w':=by
 have h1:=is_ps h s
 rw [ht] at h1
 clear ht
 go_enter Tryz.func115,Tryz.ntmps115
 go_wp2_with (go_at_call 139;refine h1.mono ?_;rintro e w' ⟨rfl,rfl⟩)
 go_ret
 exact ⟨rfl,rfl⟩
theorem want_yes (h:PS ys len bp bw vp w i) (hi:i<ys.length) (s:ByteArray) (ht:((tk ys len i).t.toList == s.toList)=true) :
 Calls Tryz.prog 143 #[.pointer (some ⟨bp,0,none⟩),.string s] w fun e w'=>e=.returned (.tuple #[])∧Chg (fun k=>k=bp) w w'∧PS ys len bp bw vp w' (i+1):=by
 have h1:=skip_yes h hi s ht
 clear ht
 go_enter Tryz.func143,Tryz.ntmps143
 go_wp2_with (go_at_call 115;refine h1.mono ?_;rintro e w' ⟨rfl,hc,hp⟩)
 go_end0
 exact ⟨rfl,hc,hp⟩
theorem want_no (h:PS ys len bp bw vp w i) (s:ByteArray) (ht:((tk ys len i).t.toList == s.toList)=false) (S:Nat→Prop) :
 Calls Tryz.prog 143 #[.pointer (some ⟨bp,0,none⟩),.string s] w fun e w'=>e=.panicked (gv 50 ((tk ys len i).a:Nat))∧Chg S w w':=by
 have h1:=skip_no h s ht
 clear ht
 go_enter Tryz.func143,Tryz.ntmps143
 go_wp2_with (go_at_call 115;refine h1.mono ?_;rintro e w' ⟨rfl,rfl⟩)
 go_at_call 138
 refine (fail_ps h 50 S).mono ?_
 rintro e w' ⟨rfl,hc⟩
 go_wp2
 exact ⟨rfl,rfl,hc⟩
theorem PS.alloc (h:PS ys len bp bw vp w i) (o:Obj):PS ys len bp bw vp (w.alloc o) i:=h.chg (S:=fun _=>False) ((Chg.refl _ _).alloc o) id id
theorem chg_set4 {S:Nat→Prop} {a w:World} (h:Chg S a w) {g:Nat} (hg:S g∨a.heap.size≤g) (x0 x1 x2 x3:Value) :
 Chg S a ((((w.setCell ⟨g,0,none⟩ x0).setCell ⟨g,1,none⟩ x1).setCell ⟨g,2,none⟩ x2).setCell ⟨g,3,none⟩ x3) :=
 (((h.setCell (p:=⟨g,0,none⟩) hg _).setCell (p:=⟨g,1,none⟩) hg _).setCell (p:=⟨g,2,none⟩) hg _).setCell (p:=⟨g,3,none⟩) hg _
theorem wantKind_yes (h:PS ys len bp bw vp w i) (hi:i<ys.length) (k:Int) (ht:(((tk ys len i).k:Int) == k)=true) :
 Calls Tryz.prog 145 #[.pointer (some ⟨bp,0,none⟩),.int .i64 k] w fun e w'=>e=.returned (.agg #[.int .i64 ((tk ys len i).k:Nat),.string (tk ys len i).t,.int .i64 ((tk ys len i).v:Nat),.int .i64 ((tk ys len i).a:Nat)])∧Chg (fun k=>k=bp) w w'∧PS ys len bp bw vp w' (i+1):=by
 obtain ⟨hlt,hlb⟩:=h.lt
 have h':=h.alloc (.cells #[.int .i64 0,.string ⟨#[]⟩,.int .i64 0,.int .i64 0] 163)
 have h1:=isKind_ps h' k
 rw [ht] at h1
 clear ht
 go_enter Tryz.func145,Tryz.ntmps145
 go_wp2_with (go_at_call 167;refine h1.mono ?_;rintro e w' ⟨rfl,rfl⟩)
 go_at_call 140
 refine (take_ps h' hi).mono ?_
 rintro e w' ⟨rfl,hc,hp⟩
 have hT:TokB w' w.heap.size 0 ⟨#[]⟩ 0 0:=hc.heap (World.alloc_heap_new w _) (by omega)
 obtain ⟨k0,k1,k2,k3,f0,f1,f2,f3⟩:=hT.at_
 have hn:w.heap.size≠bp:=by omega
 have hC:Chg (fun k=>k=bp) w w':=((Chg.refl _ w).alloc _).then (hc.mono (by intro i q;exact .inl q))
 have HC:=hid hC
 have HP:=hid hp
 clear hc hp hC h1 h'
 go_wp2
 exact bodyPost_ret (v:=.agg #[.int .i64 ((tk ys len i).k:Nat),.string (tk ys len i).t,.int .i64 ((tk ys len i).v:Nat),.int .i64 ((tk ys len i).a:Nat)]) (by simp [results,Tryz.results145,go_sem,k0,k1,k2,k3]) rfl ⟨rfl,chg_set4 HC.out (.inr (Nat.le_refl _)) _ _ _ _,HP.out.chg (chg_set4 (Chg.refl (fun k=>k=w.heap.size) _) (.inl rfl) _ _ _ _) (by omega) (by omega)⟩
theorem wantKind_no (h:PS ys len bp bw vp w i) (k:Int) (ht:(((tk ys len i).k:Int) == k)=false) (S:Nat→Prop) :
 Calls Tryz.prog 145 #[.pointer (some ⟨bp,0,none⟩),.int .i64 k] w fun e w'=>e=.panicked (gv 50 ((tk ys len i).a:Nat))∧Chg S w w':=by
 have h':=h.alloc (.cells #[.int .i64 0,.string ⟨#[]⟩,.int .i64 0,.int .i64 0] 163)
 have h1:=isKind_ps h' k
 rw [ht] at h1
 clear ht
 go_enter Tryz.func145,Tryz.ntmps145
 go_wp2_with (go_at_call 167;refine h1.mono ?_;rintro e w' ⟨rfl,rfl⟩)
 go_at_call 138
 refine (fail_ps h' 50 S).mono ?_
 rintro e w' ⟨rfl,hc⟩
 go_wp2
 exact ⟨rfl,rfl,((Chg.refl S w).alloc _).then (hc.mono (fun i q=>.inl q))⟩
theorem tok_text (k v a:Int) (t:ByteArray) (w:World):(Instr.field 163 (.agg #[.int .i64 k,.string t,.int .i64 v,.int .i64 a]) 1).run Tryz.prog w=.ok (.string t) w:=by kernel_rfl
theorem tok_value (k v a:Int) (t:ByteArray) (w:World):(Instr.field 163 (.agg #[.int .i64 k,.string t,.int .i64 v,.int .i64 a]) 2).run Tryz.prog w=.ok (.int .i64 v) w:=by kernel_rfl
attribute [local go_sem] tok_text tok_value
set_option maxRecDepth 100000 in
theorem name_ps (h:PS ys len bp bw vp w i) :
 Calls Tryz.prog 144 #[.pointer (some ⟨bp,0,none⟩)] w (Ret ys len (fun k=>k=bp) w (Syn.name (Tk ys) i) fun x j e w'=>e=.returned (.string (sb x))∧PS ys len bp bw vp w' j):=by
 by_cases hn:Syn.named (Tk ys) i=true
 ·have hi:i<ys.length:=by
   rcases Nat.lt_or_ge i ys.length with q|q
   ·exact q
   ·rw [Syn.named,Tk_none q] at hn;cases hn
  have hr:Syn.name (Tk ys) i=.ok (bl (tk ys len i).t,i+1):=by
   rw [Syn.named,Tk_some (len:=len) hi] at hn
   unfold Syn.name
   rw [Tk_some (len:=len) hi]
   exact if_pos (by simpa using hn)
  rw [hr]
  have h1:=wantKind_yes h hi 1 (by rw [named_kind];exact hn)
  clear hr hn
  go_enter Tryz.func144,Tryz.ntmps144
  go_wp2_with (go_at_call 145;refine h1.mono ?_;rintro e w' ⟨rfl,hc,hp⟩)
  go_ret
  exact ⟨hc,by rw [sb_bl];rfl,hp⟩
 ·have hr:Syn.name (Tk ys) i=.error (50,i):=by
   unfold Syn.named at hn
   unfold Syn.name
   split
   ·rename_i k hk
    rw [hk] at hn
    simp only [beq_iff_eq] at hn
    rw [if_neg hn]
   ·rfl
  rw [hr]
  have h1:=wantKind_no h 1 (by rw [named_kind];simpa using hn) (fun k=>k=bp)
  clear hr hn
  go_enter Tryz.func144,Tryz.ntmps144
  go_wp2_with (go_at_call 145;refine h1.mono ?_;rintro e w' ⟨rfl,hc⟩)
  exact ⟨rfl,hc,rfl⟩
end
end Go.Proofs.YtlpdjfimefjmcaaGreatDoor.Q
namespace Go.Proofs.YtlpdjfimefjmcaaGreatDoor.Q
open Go Go.RowKit
theorem exit_then {K:Act→World→Prop} {Q:Exit→Act→World→Prop} {n:Nat} {a:Act} {w:World} (h:Q (.exit n) a w):Exit.then K Q (.exit n) a w:=h
theorem exit_ne {Q:Exit→Act→World→Prop} {m n:Nat} {a:Act} {w:World} (hn:¬n=m) (h:Q (.exit n) a w):Exit.inBlock m Q (.exit n) a w:=by
 show (if n=m then Q .normal a w else Q (.exit n) a w)
 rw [if_neg hn];exact h
theorem exit_eq {Q:Exit→Act→World→Prop} {n:Nat} {a:Act} {w:World} (h:Q .normal a w):Exit.inBlock n Q (.exit n) a w:=by
 show (if n=n then Q .normal a w else Q (.exit n) a w)
 rw [if_pos rfl];exact h
def signL:Nat→List UInt8
 | 1=>[43]
 | 2=>[45]
 | 3=>[42]
 | 4=>[47]
 | 5=>[37]
 | 6=>[38]
 | 7=>[124]
 | 8=>[94]
 | 9=>[60,60]
 | 10=>[62,62]
 | 11=>[61,61]
 | 12=>[33,61]
 | 13=>[60]
 | 14=>[60,61]
 | 15=>[45]
 | 16=>[33]
 | 17=>[126]
 | _=>[]
def signV (op:Int):ByteArray:=⟨(if 1≤op∧op≤17 then signL op.toNat else []).toArray⟩
def arV (op:Int):Int:=if 1≤op∧op≤14 then 2 else if 15≤op∧op≤17 then 1 else 0
set_option maxRecDepth 100000 in
theorem sign_1 (w:World):Calls Tryz.prog 207 #[.int .i64 1] w fun e w'=>e=.returned (.string (⟨#[43]⟩:ByteArray))∧w=w':=by
 go_enter Tryz.func207,Tryz.ntmps207
 go_upto_region 2 with (fail)
 iterate 10 go_step
 refine wp_cond_split rfl (fun h=>?_) (fun h=>absurd h (by decide))
 apply wp_exit
 repeat (first|refine exit_then ?_|refine exit_ne (by decide) ?_)
 refine exit_eq ?_
 go_wp2
 go_ret
 exact ⟨rfl,rfl⟩
set_option maxRecDepth 100000 in
theorem sign_2 (w:World):Calls Tryz.prog 207 #[.int .i64 2] w fun e w'=>e=.returned (.string (⟨#[45]⟩:ByteArray))∧w=w':=by
 go_enter Tryz.func207,Tryz.ntmps207
 go_upto_region 3 with (fail)
 iterate 10 go_step
 refine wp_cond_split rfl (fun h=>?_) (fun h=>absurd h (by decide))
 apply wp_exit
 repeat (first|refine exit_then ?_|refine exit_ne (by decide) ?_)
 refine exit_eq ?_
 go_wp2
 go_ret
 exact ⟨rfl,rfl⟩
set_option maxRecDepth 100000 in
theorem sign_3 (w:World):Calls Tryz.prog 207 #[.int .i64 3] w fun e w'=>e=.returned (.string (⟨#[42]⟩:ByteArray))∧w=w':=by
 go_enter Tryz.func207,Tryz.ntmps207
 go_upto_region 5 with (fail)
 iterate 10 go_step
 refine wp_cond_split rfl (fun h=>?_) (fun h=>absurd h (by decide))
 apply wp_exit
 repeat (first|refine exit_then ?_|refine exit_ne (by decide) ?_)
 refine exit_eq ?_
 go_wp2
 go_ret
 exact ⟨rfl,rfl⟩
set_option maxRecDepth 100000 in
theorem sign_4 (w:World):Calls Tryz.prog 207 #[.int .i64 4] w fun e w'=>e=.returned (.string (⟨#[47]⟩:ByteArray))∧w=w':=by
 go_enter Tryz.func207,Tryz.ntmps207
 go_upto_region 6 with (fail)
 iterate 10 go_step
 refine wp_cond_split rfl (fun h=>?_) (fun h=>absurd h (by decide))
 apply wp_exit
 repeat (first|refine exit_then ?_|refine exit_ne (by decide) ?_)
 refine exit_eq ?_
 go_wp2
 go_ret
 exact ⟨rfl,rfl⟩
set_option maxRecDepth 100000 in
theorem sign_5 (w:World):Calls Tryz.prog 207 #[.int .i64 5] w fun e w'=>e=.returned (.string (⟨#[37]⟩:ByteArray))∧w=w':=by
 go_enter Tryz.func207,Tryz.ntmps207
 go_upto_region 7 with (fail)
 iterate 10 go_step
 refine wp_cond_split rfl (fun h=>?_) (fun h=>absurd h (by decide))
 apply wp_exit
 repeat (first|refine exit_then ?_|refine exit_ne (by decide) ?_)
 refine exit_eq ?_
 go_wp2
 go_ret
 exact ⟨rfl,rfl⟩
set_option maxRecDepth 100000 in
theorem sign_6 (w:World):Calls Tryz.prog 207 #[.int .i64 6] w fun e w'=>e=.returned (.string (⟨#[38]⟩:ByteArray))∧w=w':=by
 go_enter Tryz.func207,Tryz.ntmps207
 go_upto_region 8 with (fail)
 iterate 10 go_step
 refine wp_cond_split rfl (fun h=>?_) (fun h=>absurd h (by decide))
 apply wp_exit
 repeat (first|refine exit_then ?_|refine exit_ne (by decide) ?_)
 refine exit_eq ?_
 go_wp2
 go_ret
 exact ⟨rfl,rfl⟩
set_option maxRecDepth 100000 in
theorem sign_7 (w:World):Calls Tryz.prog 207 #[.int .i64 7] w fun e w'=>e=.returned (.string (⟨#[124]⟩:ByteArray))∧w=w':=by
 go_enter Tryz.func207,Tryz.ntmps207
 go_upto_region 9 with (fail)
 iterate 10 go_step
 refine wp_cond_split rfl (fun h=>?_) (fun h=>absurd h (by decide))
 apply wp_exit
 repeat (first|refine exit_then ?_|refine exit_ne (by decide) ?_)
 refine exit_eq ?_
 go_wp2
 go_ret
 exact ⟨rfl,rfl⟩
set_option maxRecDepth 100000 in
theorem sign_8 (w:World):Calls Tryz.prog 207 #[.int .i64 8] w fun e w'=>e=.returned (.string (⟨#[94]⟩:ByteArray))∧w=w':=by
 go_enter Tryz.func207,Tryz.ntmps207
 go_upto_region 10 with (fail)
 iterate 10 go_step
 refine wp_cond_split rfl (fun h=>?_) (fun h=>absurd h (by decide))
 apply wp_exit
 repeat (first|refine exit_then ?_|refine exit_ne (by decide) ?_)
 refine exit_eq ?_
 go_wp2
 go_ret
 exact ⟨rfl,rfl⟩
set_option maxRecDepth 100000 in
theorem sign_9 (w:World):Calls Tryz.prog 207 #[.int .i64 9] w fun e w'=>e=.returned (.string (⟨#[60,60]⟩:ByteArray))∧w=w':=by
 go_enter Tryz.func207,Tryz.ntmps207
 go_upto_region 11 with (fail)
 iterate 10 go_step
 refine wp_cond_split rfl (fun h=>?_) (fun h=>absurd h (by decide))
 apply wp_exit
 repeat (first|refine exit_then ?_|refine exit_ne (by decide) ?_)
 refine exit_eq ?_
 go_wp2
 go_ret
 exact ⟨rfl,rfl⟩
set_option maxRecDepth 100000 in
theorem sign_10 (w:World):Calls Tryz.prog 207 #[.int .i64 10] w fun e w'=>e=.returned (.string (⟨#[62,62]⟩:ByteArray))∧w=w':=by
 go_enter Tryz.func207,Tryz.ntmps207
 go_upto_region 12 with (fail)
 iterate 10 go_step
 refine wp_cond_split rfl (fun h=>?_) (fun h=>absurd h (by decide))
 apply wp_exit
 repeat (first|refine exit_then ?_|refine exit_ne (by decide) ?_)
 refine exit_eq ?_
 go_wp2
 go_ret
 exact ⟨rfl,rfl⟩
set_option maxRecDepth 100000 in
theorem sign_11 (w:World):Calls Tryz.prog 207 #[.int .i64 11] w fun e w'=>e=.returned (.string (⟨#[61,61]⟩:ByteArray))∧w=w':=by
 go_enter Tryz.func207,Tryz.ntmps207
 go_upto_region 13 with (fail)
 iterate 10 go_step
 refine wp_cond_split rfl (fun h=>?_) (fun h=>absurd h (by decide))
 apply wp_exit
 repeat (first|refine exit_then ?_|refine exit_ne (by decide) ?_)
 refine exit_eq ?_
 go_wp2
 go_ret
 exact ⟨rfl,rfl⟩
set_option maxRecDepth 100000 in
theorem sign_12 (w:World):Calls Tryz.prog 207 #[.int .i64 12] w fun e w'=>e=.returned (.string (⟨#[33,61]⟩:ByteArray))∧w=w':=by
 go_enter Tryz.func207,Tryz.ntmps207
 go_upto_region 14 with (fail)
 iterate 10 go_step
 refine wp_cond_split rfl (fun h=>?_) (fun h=>absurd h (by decide))
 apply wp_exit
 repeat (first|refine exit_then ?_|refine exit_ne (by decide) ?_)
 refine exit_eq ?_
 go_wp2
 go_ret
 exact ⟨rfl,rfl⟩
set_option maxRecDepth 100000 in
theorem sign_13 (w:World):Calls Tryz.prog 207 #[.int .i64 13] w fun e w'=>e=.returned (.string (⟨#[60]⟩:ByteArray))∧w=w':=by
 go_enter Tryz.func207,Tryz.ntmps207
 go_upto_region 15 with (fail)
 iterate 10 go_step
 refine wp_cond_split rfl (fun h=>?_) (fun h=>absurd h (by decide))
 apply wp_exit
 repeat (first|refine exit_then ?_|refine exit_ne (by decide) ?_)
 refine exit_eq ?_
 go_wp2
 go_ret
 exact ⟨rfl,rfl⟩
set_option maxRecDepth 100000 in
theorem sign_14 (w:World):Calls Tryz.prog 207 #[.int .i64 14] w fun e w'=>e=.returned (.string (⟨#[60,61]⟩:ByteArray))∧w=w':=by
 go_enter Tryz.func207,Tryz.ntmps207
 go_upto_region 16 with (fail)
 iterate 10 go_step
 refine wp_cond_split rfl (fun h=>?_) (fun h=>absurd h (by decide))
 apply wp_exit
 repeat (first|refine exit_then ?_|refine exit_ne (by decide) ?_)
 refine exit_eq ?_
 go_wp2
 go_ret
 exact ⟨rfl,rfl⟩
set_option maxRecDepth 100000 in
theorem sign_15 (w:World):Calls Tryz.prog 207 #[.int .i64 15] w fun e w'=>e=.returned (.string (⟨#[45]⟩:ByteArray))∧w=w':=by
 go_enter Tryz.func207,Tryz.ntmps207
 go_upto_region 4 with (fail)
 iterate 10 go_step
 refine wp_cond_split rfl (fun h=>?_) (fun h=>absurd h (by decide))
 apply wp_exit
 repeat (first|refine exit_then ?_|refine exit_ne (by decide) ?_)
 refine exit_eq ?_
 go_wp2
 go_ret
 exact ⟨rfl,rfl⟩
set_option maxRecDepth 100000 in
theorem sign_16 (w:World):Calls Tryz.prog 207 #[.int .i64 16] w fun e w'=>e=.returned (.string (⟨#[33]⟩:ByteArray))∧w=w':=by
 go_enter Tryz.func207,Tryz.ntmps207
 go_upto_region 17 with (fail)
 iterate 10 go_step
 refine wp_cond_split rfl (fun h=>?_) (fun h=>absurd h (by decide))
 apply wp_exit
 repeat (first|refine exit_then ?_|refine exit_ne (by decide) ?_)
 refine exit_eq ?_
 go_wp2
 go_ret
 exact ⟨rfl,rfl⟩
set_option maxRecDepth 100000 in
theorem sign_17 (w:World):Calls Tryz.prog 207 #[.int .i64 17] w fun e w'=>e=.returned (.string (⟨#[126]⟩:ByteArray))∧w=w':=by
 go_enter Tryz.func207,Tryz.ntmps207
 go_upto_region 18 with (fail)
 iterate 10 go_step
 refine wp_cond_split rfl (fun h=>?_) (fun h=>absurd h (by decide))
 apply wp_exit
 repeat (first|refine exit_then ?_|refine exit_ne (by decide) ?_)
 refine exit_eq ?_
 go_wp2
 go_ret
 exact ⟨rfl,rfl⟩
set_option maxRecDepth 100000 in
theorem sign_none (op:Int) (hop:op<1∨17<op) (w:World):Calls Tryz.prog 207 #[.int .i64 op] w fun e w'=>e=.returned (.string (⟨#[]⟩:ByteArray))∧w=w':=by
 have c1:(op == 1)=false:=by simp;omega
 have c2:(op == 2)=false:=by simp;omega
 have c3:(op == 3)=false:=by simp;omega
 have c4:(op == 4)=false:=by simp;omega
 have c5:(op == 5)=false:=by simp;omega
 have c6:(op == 6)=false:=by simp;omega
 have c7:(op == 7)=false:=by simp;omega
 have c8:(op == 8)=false:=by simp;omega
 have c9:(op == 9)=false:=by simp;omega
 have c10:(op == 10)=false:=by simp;omega
 have c11:(op == 11)=false:=by simp;omega
 have c12:(op == 12)=false:=by simp;omega
 have c13:(op == 13)=false:=by simp;omega
 have c14:(op == 14)=false:=by simp;omega
 have c15:(op == 15)=false:=by simp;omega
 have c16:(op == 16)=false:=by simp;omega
 have c17:(op == 17)=false:=by simp;omega
 clear hop
 go_enter Tryz.func207,Tryz.ntmps207
 go_upto_region 18 with (fail)
 iterate 10 go_step
 refine wp_cond_split rfl (fun h=>absurd h (by decide)) (fun h=>?_)
 go_step
 go_step
 go_step
 apply wp_exit
 repeat (first|refine exit_then ?_|refine exit_ne (by decide) ?_)
 refine exit_eq ?_
 go_wp2
 go_ret
 exact ⟨rfl,rfl⟩
theorem sign_cases (op:Int):op=1∨op=2∨op=3∨op=4∨op=5∨op=6∨op=7∨op=8∨op=9∨op=10∨op=11∨op=12∨op=13∨op=14∨op=15∨op=16∨op=17∨(op<1∨17<op):=by omega
theorem sign_any (op:Int) (w:World):Calls Tryz.prog 207 #[.int .i64 op] w fun e w'=>e=.returned (.string (signV op))∧w=w':=by
 rcases sign_cases op with rfl|rfl|rfl|rfl|rfl|rfl|rfl|rfl|rfl|rfl|rfl|rfl|rfl|rfl|rfl|rfl|rfl|hop
 ·exact sign_1 w
 ·exact sign_2 w
 ·exact sign_3 w
 ·exact sign_4 w
 ·exact sign_5 w
 ·exact sign_6 w
 ·exact sign_7 w
 ·exact sign_8 w
 ·exact sign_9 w
 ·exact sign_10 w
 ·exact sign_11 w
 ·exact sign_12 w
 ·exact sign_13 w
 ·exact sign_14 w
 ·exact sign_15 w
 ·exact sign_16 w
 ·exact sign_17 w
 ·rw [show signV op=(⟨#[]⟩:ByteArray) from by unfold signV;rw [if_neg (by omega)]];exact sign_none op hop w
set_option maxRecDepth 100000 in
theorem arity_ops (op:Int) (w:World):Calls Tryz.prog 208 #[.int .i64 op] w fun e w'=>e=.returned (.int .i64 (arV op))∧w=w':=by
 unfold arV
 by_cases h1:1≤op∧op≤14
 ·rw [if_pos h1]
  obtain ⟨h1,h2⟩:=h1
  go_enter Tryz.func208,Tryz.ntmps208
  go_wp2
  go_ret
  exact ⟨rfl,rfl⟩
 ·rw [if_neg h1]
  by_cases h2:15≤op∧op≤17
  ·rw [if_pos h2]
   obtain ⟨h2,h3⟩:=h2
   have h4:¬op≤14:=by omega
   clear h1
   go_enter Tryz.func208,Tryz.ntmps208
   go_wp2
   go_ret
   exact ⟨rfl,rfl⟩
  ·rw [if_neg h2]
   rcases (show op<1∨17<op by omega) with h|h
   all_goals
    clear h1 h2
    go_enter Tryz.func208,Tryz.ntmps208
    go_wp2
    go_ret
    exact ⟨rfl,rfl⟩
def hitS (s:ByteArray) (ar:Int) (k:Nat):Bool:=((signV k).toList == s.toList) && (arV k == ar)
def First (s:ByteArray) (ar:Int) (n:Nat):Prop:=1≤n∧n≤18∧(∀j,1≤j→j<n→hitS s ar j=false)∧(n=18∨hitS s ar n=true)
def bsV (n:Nat):Value:=if n=18 then .tuple #[.int .i64 0,.bool false] else .tuple #[.int .i64 n,.bool true]
theorem first_from (s:ByteArray) (ar:Int):∀(d n:Nat),n+d=18→1≤n→(∀j,1≤j→j<n→hitS s ar j=false)→∃m,First s ar m:=by
 intro d
 induction d with
 | zero=>intro n hn h1 h;exact ⟨n,h1,by omega,h,.inl (by omega)⟩
 | succ d ih =>
  intro n hn h1 h
  cases hh:hitS s ar n with
  | true=>exact ⟨n,h1,by omega,h,.inr hh⟩
  | false=>exact ih (n+1) (by omega) (by omega) (fun j hj hjn=>if e:j=n then by rw [e];exact hh else h j hj (by omega))
theorem first_any (s:ByteArray) (ar:Int):∃m,First s ar m:=first_from s ar 17 1 rfl (Nat.le_refl _) (fun j h1 h2=>by omega)
theorem miss (s:ByteArray) (ar:Int) (k:Nat) (h:hitS s ar k=false):((signV k).toList == s.toList)=false∨(((signV k).toList == s.toList)=true∧(arV k == ar)=false):=by
 unfold hitS at h
 rw [Bool.and_eq_false_iff] at h
 cases h1:((signV k).toList == s.toList) with
 | false=>exact .inl rfl
 | true=>rw [h1] at h;exact .inr ⟨rfl,h.resolve_left (by simp)⟩
theorem hitS_both (s:ByteArray) (ar:Int) (k:Nat) (h:hitS s ar k=true):((signV k).toList == s.toList)=true∧(arV k == ar)=true:=by
 unfold hitS at h
 simpa using h
set_option maxRecDepth 100000 in
set_option maxHeartbeats 1000000 in
theorem bysign_ops (s:ByteArray) (ar:Int) (n:Nat) (hn:First s ar n) (w:World) :
 Calls Tryz.prog 200 #[.string s,.int .i64 ar] w fun e w'=>e=.returned (bsV n)∧w=w':=by
 obtain ⟨h1,h18,hno,hyes⟩:=hn
 have HNO:=hid hno
 have HY:=hid hyes
 clear hno hyes
 go_enter Tryz.func200,Tryz.ntmps200
 go_wp2
 go_loop [6] (fun x=>∃k:Nat,1≤k∧k≤n∧x=.int .i64 k) (fun x=>18 - (intOf x).toNat)
 case atStart=>exact ⟨1,Nat.le_refl _,h1,rfl⟩
 case round =>
  obtain ⟨k,hk,hkn,rfl⟩:=hrel
  have hs:=sign_any k w
  have ha:=arity_ops k w
  by_cases hlt:k<n
  ·have hm:=HNO.out k hk hlt
   have hk17:(k:Int)≤17:=by omega
   rcases miss s ar k hm with hm1|⟨hm1,hm2⟩
   ·clear hm
    go_wp2_with (first|(go_at_call 207;refine hs.mono ?_;rintro e w' ⟨rfl,rfl⟩)|(go_at_call 208;refine ha.mono ?_;rintro e w' ⟨rfl,rfl⟩))
    exact ⟨⟨k+1,by omega,by omega,by go_num⟩,by simp [intOf];omega⟩
   ·clear hm
    go_wp2_with (first|(go_at_call 207;refine hs.mono ?_;rintro e w' ⟨rfl,rfl⟩)|(go_at_call 208;refine ha.mono ?_;rintro e w' ⟨rfl,rfl⟩))
    exact ⟨⟨k+1,by omega,by omega,by go_num⟩,by simp [intOf];omega⟩
  ·obtain rfl:k=n:=by omega
   by_cases h:k=18
   ·subst h
    clear HNO HY
    go_wp2
    go_ret2
    exact ⟨rfl,rfl⟩
   ·obtain ⟨hm1,hm2⟩:=hitS_both s ar k (HY.out.resolve_left h)
    have hk17:(k:Int)≤17:=by omega
    have hV:=hid (show bsV k=.tuple #[.int .i64 k,.bool true] from if_neg h)
    clear HNO HY
    go_wp2_with (first|(go_at_call 207;refine hs.mono ?_;rintro e w' ⟨rfl,rfl⟩)|(go_at_call 208;refine ha.mono ?_;rintro e w' ⟨rfl,rfl⟩))
    go_ret2
    exact ⟨by rw [hV.out];rfl,rfl⟩
end Go.Proofs.YtlpdjfimefjmcaaGreatDoor.Q
namespace Go.Proofs.Syn
def Cnt (p:Nat→R (List Tm)):Prop:=∀i l j,p i=.ok (l,j)→l.length+i≤j
section
variable {T:Nat→Option K} {F:Nat}
theorem loop_cnt {p:Nat→R (List Tm)} (hp:Cnt p) (ms:List (List Nat × Nat)):∀(f:Nat) (l:List Tm) (i:Nat) (l':List Tm) (j:Nat),loopF T p ms f l i=.ok (l',j)→l'.length+i≤l.length+j
 | 0,_,_,_,_,h=>by cases h
 | f+1,l,i,l',j,h=>by
  rw [loopF] at h
  split at h
  ·injection h with h;injection h with h1 h2
   subst h1;subst h2;exact Nat.le_refl _
  ·obtain ⟨r,i2,h1,h2⟩:=R.on_ok h
   have a:=hp _ _ _ h1
   have b:=loop_cnt hp ms f _ i2 l' j h2
   simp only [List.length_append,List.length_singleton] at b
   omega
theorem tower_cnt {u:Nat→R (List Tm)} (hu:Cnt u):∀k,Cnt (tower T F u k)
 | 0=>fun i l j h=>hu i l j h
 | k+1=>fun i l j h=>by
  rw [tower] at h
  obtain ⟨l1,i1,h1,h2⟩:=R.on_ok h
  have a:=tower_cnt hu k _ _ _ h1
  have b:=loop_cnt (tower_cnt hu k) _ _ _ _ _ _ h2
  omega
theorem unOps_cnt:∀(f i:Nat) (l:List Nat) (j:Nat),unOps T f i=.ok (l,j)→l.length+i=j
 | 0,_,_,_,h=>by cases h
 | f+1,i,l,j,h=>by
  rw [unOps] at h
  split at h
  ·injection h with h;injection h with h1 h2
   subst h1;subst h2;simp
  ·obtain ⟨l1,i1,h1,h2⟩:=R.on_ok h
   injection h2 with h2;injection h2 with h3 h4
   subst h3;subst h4
   have:=unOps_cnt f _ _ _ h1
   simp only [List.length_cons];omega
theorem brack_cnt {e:Option (Nat→R (List Tm))} (he:∀p,e=some p→Cnt p) {g:List Tm→List Tm} (hg:∀l,(g l).length≤l.length+1) {s:List Nat} {i j:Nat} {l:List Tm} (h:brack T e g s i=.ok (l,j)):l.length+i≤j:=by
 unfold brack at h
 split at h
 ·cases h
 ·obtain ⟨l1,i1,h1,h⟩:=R.on_ok h
  obtain ⟨_,i2,h2,h⟩:=R.on_ok h
  injection h with h;injection h with h3 h4
  subst h3;subst h4
  have a:=he _ rfl _ _ _ h1
  have b:=(want_ok h2).2
  have:=hg l1
  omega
theorem atom_cnt {e:Option (Nat→R (List Tm))} (he:∀p,e=some p→Cnt p):Cnt (atom T e):=by
 intro i l j h
 unfold atom at h
 split at h
 ·cases h
 ·split at h
  ·injection h with h;injection h with h3 h4
   subst h3;subst h4;simp;omega
  ·split at h
   ·exact brack_cnt he (fun l=>Nat.le_succ _) h
   ·unfold atomN at h
    obtain ⟨s,i1,h1,h⟩:=R.on_ok h
    have a:=(name_ok h1).2.1
    split at h
    ·have:=brack_cnt he (g:=fun l=>l++[⟨3,0,s⟩]) (fun l=>by simp) h
     omega
    ·injection h with h;injection h with h3 h4
     subst h3;subst h4;simp;omega
theorem unary_cnt {e:Option (Nat→R (List Tm))} (he:∀p,e=some p→Cnt p):Cnt (unary T F e):=by
 intro i l j h
 rw [unary_atom] at h
 obtain ⟨ops,i1,h1,h⟩:=R.on_ok h
 obtain ⟨l1,i2,h2,h⟩:=R.on_ok h
 injection h with h;injection h with h3 h4
 subst h3;subst h4
 have a:=unOps_cnt _ _ _ _ h1
 have b:=atom_cnt he _ _ _ h2
 simp only [List.length_append,List.length_map,List.length_reverse]
 omega
theorem expr_cnt:∀d,Cnt (exprD T F d)
 | 0=>tower_cnt (unary_cnt (fun p h=>by cases h)) 6
 | d+1=>tower_cnt (unary_cnt (fun p h=>by cases h;exact expr_cnt d)) 6
end
theorem Fit.pos {α:Type} {n:Nat} {r:R α} {x:α} {j:Nat} (h:Fit n r) (e:r=.ok (x,j)):j≤n:=by rw [e] at h;exact h
theorem Fit.no99 {α:Type} {n j:Nat} {r:R α} (h:Fit n r) (e:r=.error (99,j)):False:=by
 rw [e] at h
 rcases h.1 with h|h|h|h <;> cases h
def lvlOf (op:Nat):Nat :=
 if 11≤op∧op≤14 then 0 else if op=7∨op=8 then 1 else if op=6 then 2 else if op=9∨op=10 then 3 else if op=1∨op=2 then 4 else 5
def sgn:Nat→List Nat
 | 1=>[43] | 2=>[45] | 3=>[42] | 4=>[47] | 5=>[37] | 6=>[38] | 7=>[124] | 8=>[94] | 9=>[60,60] | 10=>[62,62] | 11=>[61,61] | 12=>[33,61] | 13=>[60] | 14=>[60,61]
 | 15=>[45] | 16=>[33] | 17=>[126] | _=>[]
theorem find_congr {α:Type} {p q:α→Bool}:∀{l:List α},(∀m∈l,p m=q m)→l.find? p=l.find? q
 | [],_=>rfl
 | m::l,h=>by
  rw [List.find?_cons,List.find?_cons,h m (List.mem_cons_self ..),find_congr (fun x hx=>h x (List.mem_cons_of_mem _ hx))]
def opTx (ms:List (List Nat × Nat)) (t:List Nat):Nat:=match ms.find? fun m=>t == m.1 with
 | some m=>m.2
 | none=>0
theorem opTx_sgn (n:Nat) (h1:1≤n) (h2:n≤14) (l:Nat) (hl:l≤5):opTx (marks l) (sgn n)=if lvlOf n=l then n else 0:=by
 have:∀n:Fin 15,∀l:Fin 6,1≤n.val→opTx (marks l.val) (sgn n.val)=if lvlOf n.val=l.val then n.val else 0:=by decide
 exact this ⟨n,by omega⟩ ⟨l,by omega⟩ h1
theorem opTx_none (ms:List (List Nat × Nat)) (t:List Nat) (h:∀m∈ms,t≠m.1):opTx ms t=0:=by
 unfold opTx
 rw [List.find?_eq_none.2 (fun m hm=>by simpa using h m hm)]
theorem marks_sgn (l:Nat):∀m∈marks l,sgn m.2=m.1∧1≤m.2∧m.2≤14:=by
 have:(marks l).all (fun m=>decide (sgn m.2=m.1∧1≤m.2∧m.2≤14))=true:=by
  unfold marks
  split <;> decide
 intro m hm
 simpa using List.all_eq_true.1 this m hm
def unL:List (List Nat × Nat):=[([45],15),([33],16),([126],17)]
theorem opTx_un (n:Nat) (h1:15≤n) (h2:n≤17):opTx unL (sgn n)=n:=by
 rcases (show n=15∨n=16∨n=17 by omega) with rfl|rfl|rfl <;> decide
end Go.Proofs.Syn
namespace Go.Proofs.YtlpdjfimefjmcaaGreatDoor.Q
open Go Go.RowKit Go.Proofs.Mm
theorem bl_sign (n:Nat) (h1:1≤n) (h2:n≤17):bl (signV n)=Syn.sgn n:=by
 have:∀n:Fin 18,1≤n.val→bl (signV n.val)=Syn.sgn n.val:=by decide
 exact this ⟨n,by omega⟩ h1
theorem hitS_iff (t:ByteArray) (ar:Int) (n:Nat) (h1:1≤n) (h2:n≤17):hitS t ar n=true↔bl t=Syn.sgn n∧arV n=ar:=by
 unfold hitS
 rw [eq_text,bl_sign n h1 h2,Bool.and_eq_true,beq_iff_eq,beq_iff_eq,eq_comm]
theorem bysign2 (t:ByteArray):∃n,First t 2 n∧((n=18∧∀l,Syn.opTx (Syn.marks l) (bl t)=0)∨(1≤n∧n≤14∧∀l,l≤5→Syn.opTx (Syn.marks l) (bl t)=if Syn.lvlOf n=l then n else 0)):=by
 obtain ⟨n,h1,h18,hno,hyes⟩:=first_any t 2
 refine ⟨n,⟨h1,h18,hno,hyes⟩,?_⟩
 by_cases hn:n=18
 ·refine .inl ⟨hn,fun l=>Syn.opTx_none _ _ fun m hm e=>?_⟩
  obtain ⟨a,b,c⟩:=Syn.marks_sgn l m hm
  have:=hno m.2 b (by omega)
  have h2:=(hitS_iff t 2 m.2 b (by omega)).2 ⟨by rw [e,a],by unfold arV;rw [if_pos (by omega)]⟩
  rw [this] at h2;cases h2
 ·obtain ⟨a,b⟩:=(hitS_iff t 2 n h1 (by omega)).1 (hyes.resolve_left hn)
  have hn14:n≤14:=by
   unfold arV at b
   split at b
   ·omega
   ·split at b <;> omega
  exact .inr ⟨h1,hn14,fun l hl=>by rw [a];exact Syn.opTx_sgn n h1 hn14 l hl⟩
theorem bysign1 (t:ByteArray):∃n,First t 1 n∧((n=18∧Syn.opTx Syn.unL (bl t)=0)∨(15≤n∧n≤17∧Syn.opTx Syn.unL (bl t)=n)):=by
 obtain ⟨n,h1,h18,hno,hyes⟩:=first_any t 1
 refine ⟨n,⟨h1,h18,hno,hyes⟩,?_⟩
 by_cases hn:n=18
 ·refine .inl ⟨hn,Syn.opTx_none _ _ fun m hm e=>?_⟩
  have hm2:Syn.sgn m.2=m.1∧15≤m.2∧m.2≤17:=by
   have:Syn.unL.all (fun m=>decide (Syn.sgn m.2=m.1∧15≤m.2∧m.2≤17))=true:=by decide
   simpa using List.all_eq_true.1 this m hm
  obtain ⟨a,b,c⟩:=hm2
  have:=hno m.2 (by omega) (by omega)
  have h2:=(hitS_iff t 1 m.2 (by omega) c).2 ⟨by rw [e,a],by unfold arV;rw [if_neg (by omega),if_pos (by omega)]⟩
  rw [this] at h2;cases h2
 ·obtain ⟨a,b⟩:=(hitS_iff t 1 n h1 (by omega)).1 (hyes.resolve_left hn)
  have hn15:15≤n:=by
   unfold arV at b
   split at b
   ·omega
   ·split at b <;> omega
  exact .inr ⟨hn15,by omega,by rw [a];exact Syn.opTx_un n hn15 (by omega)⟩
theorem opOf_text {ys:List It} (hw:Ws ys) (len i:Nat) {ms:List (List Nat × Nat)} (hm:∀m∈ms,Mk m.1=true):Syn.opOf (Tk ys) ms i=Syn.opTx ms (bl (tk ys len i).t):=by
 unfold Syn.opOf Syn.opTx
 rw [Syn.find_congr (q:=fun m=>bl (tk ys len i).t == m.1) (fun m hx=>(is_text hw len i (hm m hx)).symm)]
 rfl
theorem mk_marks (l:Nat):∀m∈Syn.marks l,Mk m.1=true:=by
 have:(Syn.marks l).all (fun m=>Mk m.1)=true:=by
  unfold Syn.marks
  split <;> decide
 exact List.all_eq_true.1 this
theorem mk_un:∀m∈Syn.unL,Mk m.1=true:=by decide
set_option maxRecDepth 100000 in
theorem levelOf_any (n:Nat) (h1:1≤n) (h2:n≤14) (w:World):Calls Tryz.prog 201 #[.int .i64 (n:Nat)] w fun e w'=>e=.returned (.int .i64 ((Syn.lvlOf n:Nat):Int))∧w=w':=by
 rcases (show n=1∨n=2∨n=3∨n=4∨n=5∨n=6∨n=7∨n=8∨n=9∨n=10∨n=11∨n=12∨n=13∨n=14 by omega) with rfl|rfl|rfl|rfl|rfl|rfl|rfl|rfl|rfl|rfl|rfl|rfl|rfl|rfl
 all_goals
  clear h1 h2
  go_enter Tryz.func201,Tryz.ntmps201
  go_wp2
  go_ret
  exact ⟨rfl,rfl⟩
section
variable {ys:List It} {len bp bw i:Nat} {vp:Value} {w:World}
set_option maxRecDepth 100000 in
theorem unarySign_no (hw:Ws ys) (h:PS ys len bp bw vp w i) (ho:Syn.opOf (Tk ys) Syn.unL i=0) :
 Calls Tryz.prog 202 #[.pointer (some ⟨bp,0,none⟩)] w fun e w'=>e=.returned (.tuple #[.int .i64 0,.bool false])∧w=w':=by
 obtain ⟨n,hn,hc⟩:=bysign1 (tk ys len i).t
 rw [opOf_text hw len i mk_un] at ho
 have hn18:n=18:=by rcases hc with hc|hc <;> omega
 subst hn18
 have hb:=bysign_ops _ _ _ hn w
 rw [show bsV 18=.tuple #[.int .i64 0,.bool false] from rfl] at hb
 obtain ⟨c,h0,hf,hcc,hc2,h1,h2,h3,h4⟩:=h.raw
 have hle:=h.le
 have hm:0<ys.length+1 - i:=by omega
 clear h hf hcc hc2 h1 h3 h4 hc hn ho
 generalize ys.length+1 - i=m at *
 generalize 4*i=o at *
 go_enter Tryz.func202,Tryz.ntmps202
 go_wp2_with (go_at_call 200;refine hb.mono ?_;rintro e w' ⟨rfl,rfl⟩)
 go_ret2
 exact ⟨rfl,rfl⟩
set_option maxRecDepth 100000 in
theorem unarySign_yes (hw:Ws ys) (h:PS ys len bp bw vp w i) (n:Nat) (hn0:n≠0) (ho:Syn.opOf (Tk ys) Syn.unL i=n) (hi:i<ys.length) :
 Calls Tryz.prog 202 #[.pointer (some ⟨bp,0,none⟩)] w fun e w'=>e=.returned (.tuple #[.int .i64 (n:Nat),.bool true])∧Chg (fun k=>k=bp) w w'∧PS ys len bp bw vp w' (i+1):=by
 obtain ⟨n',hn,hc⟩:=bysign1 (tk ys len i).t
 rw [opOf_text hw len i mk_un] at ho
 have hn18:n'=n∧n≤17:=by rcases hc with hc|hc <;> omega
 obtain ⟨rfl,hn17⟩:=hn18
 have hb:=bysign_ops _ _ _ hn w
 rw [show bsV n'=.tuple #[.int .i64 (n':Nat),.bool true] from if_neg (by omega)] at hb
 have ht:=hid (take_ps h hi)
 obtain ⟨c,h0,hf,hcc,hc2,h1,h2,h3,h4⟩:=h.raw
 have hle:=h.le
 have hm:0<ys.length+1 - i:=by omega
 clear h hf hcc hc2 h1 h3 h4 hc hn ho hn0
 generalize ys.length+1 - i=m at *
 generalize 4*i=o at *
 go_enter Tryz.func202,Tryz.ntmps202
 go_wp2_with (go_at_call 200;refine hb.mono ?_;rintro e w' ⟨rfl,rfl⟩)
 go_at_call 140
 refine ht.out.mono ?_
 rintro e w' ⟨rfl,hC,hP⟩
 go_wp2
 go_ret2
 exact ⟨rfl,hC,hP⟩
end
def tmC (t:Syn.Tm):List Value:=[.int .i64 (t.kind:Int),.int .i64 (t.value:Int),.string (sb t.name)]
def tmCells (l:List Syn.Tm):List Value:=l.flatMap tmC
theorem tmCells_app (l m:List Syn.Tm):tmCells (l++m)=tmCells l++tmCells m:=by unfold tmCells;rw [List.flatMap_append]
theorem tmCells_one (t:Syn.Tm):tmCells [t]=tmC t:=by simp [tmCells]
theorem infoTm:∃i,Tryz.prog.info? 140=some i∧i.zero=some (.agg #[.int .i64 0,.int .i64 0,.string ⟨#[]⟩])∧i.size=3∧i.bytes=32:=by
 have h:(Tryz.prog.info? 140).map (fun i=>(i.zero,i.size,i.bytes))=some (some (.agg #[.int .i64 0,.int .i64 0,.string ⟨#[]⟩]),3,32):=by kernel_rfl
 cases hi:Tryz.prog.info? 140 with
 | none=>rw [hi] at h;cases h
 | some i =>
  rw [hi] at h
  simp only [Option.map_some,Option.some.injEq,Prod.mk.injEq] at h
  obtain ⟨e1,e2,e3⟩:=h
  exact ⟨i,rfl,e1,e2,e3⟩
def TR (w:World) (v:Value) (l:List Syn.Tm):Prop:=w.ownsRow 0 140 3 v l.length (tmCells l)
theorem own_type {w:World} {B n size:Nat} {E:TypeId} {v:Value} {xs:List Value} (h:w.ownsRow B E size v n xs) {k:Nat} (hk:v.ownBlock=some k):∃cur,w.heap[k]?=some (.cells cur E (0,0)):=by
 rcases h.2 with ⟨rfl,_⟩|⟨g,cap,cur,rfl,_,hg,_⟩
 ·cases hk
 ·obtain rfl:g=k:=by simpa [Value.ownBlock] using hk
  exact ⟨cur,hg⟩
theorem own_chg {w w':World} {B n size:Nat} {E:TypeId} {v:Value} {xs:List Value} (h:w.ownsRow B E size v n xs) {S:Nat→Prop} (hc:Chg S w w') (hn:∀k,v.ownBlock=some k→¬S k):w'.ownsRow B E size v n xs:=by
 refine ⟨h.1,?_⟩
 rcases h.2 with h0|⟨g,cap,cur,rfl,hb,hg,rest⟩
 ·exact .inl h0
 ·exact .inr ⟨g,cap,cur,rfl,hb,hc.heap hg (hn g rfl),rest⟩
theorem own_shape {w:World} {B n size:Nat} {E:TypeId} {v:Value} {xs:List Value} (h:w.ownsRow B E size v n xs):∃q c,v=.slice q n c:=by
 rcases h.2 with ⟨rfl,rfl⟩|⟨g,cap,cur,rfl,_⟩
 ·exact ⟨_,_,rfl⟩
 ·exact ⟨_,_,rfl⟩
def TS (bp:Nat) (v:Value):Nat→Prop:=fun k=>k=bp∨v.ownBlock=some k
def TOk (ys:List It) (len bp bw:Nat) (vp:Value) (l0:List Syn.Tm) (v:Value) (w:World) (l:List Syn.Tm) (j:Nat) (e:Ending) (w':World):Prop :=
 ∃v',e=.returned v'∧TR w' v' (l0++l)∧PS ys len bp bw vp w' j∧∀k,v'.ownBlock=some k→v.ownBlock=some k∨w.heap.size≤k
def RdT (ys:List It) (len bp bw:Nat) (vp:Value) (K:FuncId) (args:Value→Array Value) (Inv:World→Prop) (r:Nat→Syn.R (List Syn.Tm)):Prop :=
 ∀w i v l0,Inv w→PS ys len bp bw vp w i→TR w v l0→l0.length+(ys.length - i)≤131072→Calls Tryz.prog K (args v) w (Ret ys len (TS bp v) w (r i) (TOk ys len bp bw vp l0 v w))
section
variable {ys:List It} {len bp bw i:Nat} {vp:Value} {w:World}
theorem ps_not_row (h:PS ys len bp bw vp w i) {v:Value} {l:List Syn.Tm} (hr:TR w v l):v.ownBlock≠some bp∧v.ownBlock≠some bw:=by
 obtain ⟨⟨c,a1,_⟩,⟨arr,b1,_⟩,_,_⟩:=h
 constructor
 ·intro e
  obtain ⟨cur,h2⟩:=own_type hr e
  have:=a1.symm.trans h2
  simp at this
 ·intro e
  obtain ⟨cur,h2⟩:=own_type hr e
  have:=b1.symm.trans h2
  simp at this
theorem tr_next (h:PS ys len bp bw vp w i) {v:Value} {l:List Syn.Tm} (hr:TR w v l) {w':World} (hc:Chg (fun k=>k=bp) w w'):TR w' v l :=
 own_chg hr hc (fun k hk e=>by subst e;exact (ps_not_row h hr).1 hk)
theorem ts_le {v:Value} {w w':World} (hc:Chg (fun k=>k=bp) w w'):Chg (TS bp v) w w':=hc.mono fun _ e=>.inl (.inl e)
theorem tr_app (h:PS ys len bp bw vp w i) {v v':Value} {l:List Syn.Tm} (hr:TR w v l) {t:Syn.Tm} {w9:World} (T:TypeId)
 (hown:w9.ownsRow 0 140 3 v' (l.length+1) (tmCells l++tmC t)) (hg:(w.alloc (.cells (tmC t).toArray T)).grownBy w9 v.ownBlock) (hat:v'.ownBlock=v.ownBlock∨v'.ownBlock=some (w.heap.size+1)) :
 TR w9 v' (l++[t])∧PS ys len bp bw vp w9 i∧Chg (TS bp v) w w9∧∀k,v'.ownBlock=some k→v.ownBlock=some k∨w.heap.size≤k:=by
 have hC:Chg (TS bp v) w w9:=((Chg.refl _ w).alloc _).then (grown_chg hg (fun k hk=>.inl (.inr hk)))
 have hC2:Chg (fun k=>v.ownBlock=some k) w w9:=((Chg.refl _ w).alloc _).then (grown_chg hg (fun k hk=>.inl hk))
 refine ⟨?_,h.chg hC2 (ps_not_row h hr).1 (ps_not_row h hr).2,hC,fun k hk=>?_⟩
 ·unfold TR
  rw [List.length_append,List.length_singleton,tmCells_app,tmCells_one]
  exact hown
 ·rcases hat with e|e
  ·rw [e] at hk;exact .inl hk
  ·rw [e] at hk
   simp only [Option.some.injEq] at hk
   exact .inr (by omega)
theorem tm_new (w:World) (t:Syn.Tm) (T:TypeId):∀j u,(tmC t)[j]?=some u→(w.alloc (.cells (tmC t).toArray T)).cell? ((⟨w.heap.size,0,none⟩:Addr).add j)=some u:=row_new w (tmC t) T
theorem tm_one (t:Syn.Tm):∀u∈tmC t,u.oneCell'=true:=by
 intro u hu
 unfold tmC at hu
 rcases List.mem_cons.1 hu with rfl|hu
 ·rfl
 rcases List.mem_cons.1 hu with rfl|hu
 ·rfl
 rcases List.mem_cons.1 hu with rfl|hu
 ·rfl
 ·exact absurd hu (by simp)
theorem bracketed_deep (h:PS ys len bp bw vp w i) (s:ByteArray) (v:Value) (S:Nat→Prop) :
 Calls Tryz.prog 209 #[.pointer (some ⟨bp,0,none⟩),.string s,v,.int .i64 12] w fun e w'=>e=.panicked (gv 51 ((tk ys len i).a:Nat))∧Chg S w w':=by
 go_enter Tryz.func209,Tryz.ntmps209
 go_wp2_with (go_at_call 138;refine (fail_ps h 51 S).mono ?_;rintro e w' ⟨rfl,hc⟩)
 exact ⟨rfl,rfl,hc⟩
set_option maxRecDepth 100000 in
theorem bracketed_some (hw:Ws ys) (h:PS ys len bp bw vp w i) (hi:i<ys.length) {d:Nat} (hd:d<12) {r:Nat→Syn.R (List Syn.Tm)} (s:ByteArray) (hs:Mk (bl s)=true)
 (hR:RdT ys len bp bw vp 184 (fun v=>#[.pointer (some ⟨bp,0,none⟩),v,.int .i64 ((d:Int)+1)]) (fun _=>True) r) {v:Value} {l0:List Syn.Tm} (hr:TR w v l0) (hb:l0.length+(ys.length - i)≤131072) :
 Calls Tryz.prog 209 #[.pointer (some ⟨bp,0,none⟩),.string s,v,.int .i64 (d:Int)] w (Ret ys len (TS bp v) w (Syn.brack (Tk ys) (some r) (fun l=>l) (bl s) i) (TOk ys len bp bw vp l0 v w)):=by
 have hne:((d:Int) == 12)=false:=by simp;omega
 have ht:=take_ps h hi
 have HR:=hid hR
 clear hR
 cases hri:r (i+1) with
 | error q =>
  obtain ⟨er,k⟩:=q
  have hB:Syn.brack (Tk ys) (some r) (fun l=>l) (bl s) i=.error (er,k):=by unfold Syn.brack;simp only [hri,Syn.R.on]
  rw [hB]
  clear hB
  have HRI:=hid hri
  clear hri
  go_enter Tryz.func209,Tryz.ntmps209
  go_wp2_with (go_at_call 140;refine ht.mono ?_;rintro e w1 ⟨rfl,hc1,hp1⟩)
  have hcall:=HR.out w1 (i+1) v l0 trivial hp1 (tr_next h hr hc1) (by omega)
  rw [HRI.out] at hcall
  go_at_call 184
  refine hcall.mono ?_
  rintro e w2 ⟨hc2,rfl⟩
  exact ⟨rfl,(ts_le hc1).then hc2,rfl⟩
 | ok q =>
  obtain ⟨l,j⟩:=q
  by_cases hx:Syn.is (Tk ys) j (bl s)=true
  ·have hj:j<ys.length:=by
    rcases Nat.lt_or_ge j ys.length with q|q
    ·exact q
    ·rw [Syn.is,Tk_none q] at hx;cases hx
   have hB:Syn.brack (Tk ys) (some r) (fun l=>l) (bl s) i=.ok (l,j+1):=by
    unfold Syn.brack
    simp only [hri,Syn.R.on]
    rw [show Syn.want (Tk ys) j (bl s)=.ok ((),j+1) from if_pos hx]
   rw [hB]
   clear hB
   have HRI:=hid hri
   have hx2:((tk ys len j).t.toList == s.toList)=true:=by rw [eq_text,is_text hw len j hs];exact hx
   have HX:=hid hx2
   clear hri hx hx2
   go_enter Tryz.func209,Tryz.ntmps209
   go_wp2_with (go_at_call 140;refine ht.mono ?_;rintro e w1 ⟨rfl,hc1,hp1⟩)
   have hcall:=HR.out w1 (i+1) v l0 trivial hp1 (tr_next h hr hc1) (by omega)
   rw [HRI.out] at hcall
   have hsz:=hc1.size
   go_at_call 184
   refine hcall.mono ?_
   rintro e w2 ⟨hc2,v',rfl,hr2,hp2,hob⟩
   have hwt:=want_yes hp2 hj s HX.out
   go_wp2_with (go_at_call 143;refine hwt.mono ?_;rintro e w3 ⟨rfl,hc3,hp3⟩)
   go_ret
   exact ⟨((ts_le hc1).then hc2).then (ts_le hc3),v',rfl,tr_next hp2 hr2 hc3,hp3,fun k hk=>by rcases hob k hk with q|q <;> first|exact .inl q|exact .inr (by omega)⟩
  ·have hB:Syn.brack (Tk ys) (some r) (fun l=>l) (bl s) i=.error (50,j):=by
    unfold Syn.brack
    simp only [hri,Syn.R.on]
    rw [show Syn.want (Tk ys) j (bl s)=.error (50,j) from if_neg hx]
   rw [hB]
   clear hB
   have HRI:=hid hri
   have hx2:((tk ys len j).t.toList == s.toList)=false:=by rw [eq_text,is_text hw len j hs];simpa using hx
   have HX:=hid hx2
   clear hri hx hx2
   go_enter Tryz.func209,Tryz.ntmps209
   go_wp2_with (go_at_call 140;refine ht.mono ?_;rintro e w1 ⟨rfl,hc1,hp1⟩)
   have hcall:=HR.out w1 (i+1) v l0 trivial hp1 (tr_next h hr hc1) (by omega)
   rw [HRI.out] at hcall
   go_at_call 184
   refine hcall.mono ?_
   rintro e w2 ⟨hc2,v',rfl,hr2,hp2,hob⟩
   have hwt:=want_no hp2 s HX.out (TS bp v)
   go_wp2_with (go_at_call 143;refine hwt.mono ?_;rintro e w3 ⟨rfl,hc3⟩)
   exact ⟨rfl,((ts_le hc1).then hc2).then (hc3.mono fun _ q=>.inl q),rfl⟩
end
end Go.Proofs.YtlpdjfimefjmcaaGreatDoor.Q
