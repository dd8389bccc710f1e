/- The writer: a block with one slice of bytes of the call's own; number, size, label, isTooLong. The writer's small calls: isTooLong, size, label, array, instr. The writer: each of labels, of arrays, of instructions. The writer: a function, each of functions, a module. -/
import Derived.Test.YtbfkgcapkffecaaImKnownPR3
import Derived.Test.YtbfkgcapkffecaaImKnownPR4
import Derived.Test.YtbfkgcapkffecaaImKnownPR1
import Derived.Deep.RegionHeldLaw
import Derived.ArgAppend
namespace Go.Proofs.Ytbfkgcapkffecaa
open Go Go.RowKit Go.Proofs.Mm Go.Sort
def FullW (B:Nat) (w:World) (v:Value) (l:List Nat):Prop:=∃ g cur fr,v=.slice (some ⟨g,0,none⟩) l.length l.length∧B≤g∧w.heap[g]?=some (.cells cur 5 fr)∧cur.toList=bv l
def RowW (B:Nat) (w:World) (v:Value) (l:List Nat):Prop:=OwnB B w v l ∨ FullW B w v l
section
variable {B:Nat} {w w':World} {v:Value} {l:List Nat}
theorem FullW.cells {g n c:Nat} (h:FullW B w (.slice (some ⟨g,0,none⟩) n c) l):∀ j u,(bv l)[j]?=some u→w.cell? ((⟨g,0,none⟩:Addr).add j)=some u:=by
  obtain ⟨g',cur,fr,h1,_,h3,h4⟩:=h
  injection h1 with h1 _ _
  injection h1 with h1
  injection h1 with h1 _ _
  subst h1
  intro j u hu
  rw [show ((⟨g,0,none⟩:Addr).add j)=⟨g,j,none⟩ from by unfold Addr.add;split <;> simp_all,cell_of_row w g j cur 5 fr h3]
  rw [← h4] at hu
  simpa using hu
theorem RowW.slice (h:RowW B w v l):∃ q c,v=.slice q l.length c:=by
  rcases h with h | ⟨g,_,_,h,_⟩
  · exact OwnB.slice h
  · exact ⟨_,_,h⟩
theorem RowW.stay (h:RowW B w v l) (hb:Below w.heap.size w w'):RowW B w' v l:=by
  rcases h with h | ⟨g,cur,fr,h1,h2,h3,h4⟩
  · exact .inl (OwnB.stay h hb)
  · exact .inr ⟨g,cur,fr,h1,h2,(hb.block _ (heap_lt h3)).trans h3,h4⟩
theorem RowW.lt (h:RowW B w v l):∀ k,v.ownBlock=some k→B≤k∧k<w.heap.size:=by
  rcases h with h | ⟨g,cur,fr,h1,h2,h3,h4⟩
  · exact OwnB.lt h
  · intro k hk
    rw [h1] at hk
    injection hk with hk
    subst hk
    exact ⟨h2,heap_lt h3⟩
theorem RowW.type (h:RowW B w v l) {k:Nat} (hk:v.ownBlock=some k):∃ cur fr,w.heap[k]?=some (.cells cur 5 fr):=by
  rcases h with h | ⟨g,cur,fr,h1,h2,h3,h4⟩
  · obtain ⟨cur,h⟩:=own_type h hk
    exact ⟨cur,_,h⟩
  · rw [h1] at hk
    injection hk with hk
    subst hk
    exact ⟨cur,fr,h3⟩
theorem RowW.in {n c:Nat} {p:Option Addr} (h:RowW B w (.slice p n c) l):ByIn w.heap.size w p l:=by
  rcases h with h | h
  · exact OwnB.in h
  · obtain ⟨g,cur,fr,h1,h2,h3,h4⟩:=h
    injection h1 with h1 _ _
    subst h1
    intro i hi
    refine ⟨g,0,rfl,heap_lt h3,?_⟩
    have:=FullW.cells ⟨g,cur,fr,rfl,h2,h3,h4⟩ i (.int .u8 ((l.getD i 0:Nat):Int)) (by
      unfold bv
      rw [List.getElem?_map,List.getElem?_eq_getElem hi,List.getD_eq_getElem?_getD,List.getElem?_eq_getElem hi];rfl)
    rw [show ((⟨g,0,none⟩:Addr).add i)=⟨g,0+i,none⟩ from by unfold Addr.add;split <;> simp_all] at this
    exact this
end
theorem run_append_row (w:World) (B:Nat) (ty:TypeId) (v:Value) (l:List Nat) (hown:RowW B w v l) (ad:Addr) (c:Nat) (news:List Nat) (hne:0<news.length) (hnews:∀ j u,(bv news)[j]?=some u→w.cell? (ad.add j)=some u)
    (hb:l.length+news.length≤140737488355328) (hbase:B≤w.heap.size) :
    ∃ v' w',(Builtin.append_ #[28,28] ty #[v,.slice (some ad) news.length c]).run Try.prog w=.ok v' w'∧OwnB B w' v' (l++news)∧w.grownBy w' v.ownBlock:=by
  obtain ⟨i,h2,h3,h4,h5⟩:=info5
  rcases hown with hown | hown
  · obtain ⟨v',w',hr,r1,r2,_⟩:=run_append_more (P:=Try.prog) w B 28 ty 5 i (.int .u8 0) 1 1 Try.underlying28 h2 h3 h4 h5 rfl (by omega) v l.length (bv l) hown ad news.length c (bv news) (by simp [bv]) hnews (bv_one _) (by unfold maxLen;omega) (by omega) hbase
    exact ⟨v',w',hr,by unfold OwnB;rw [List.length_append,bv_append];exact r1,r2⟩
  · have hF:=hown
    obtain ⟨g,cur,fr,rfl,k2,k3,k4⟩:=hown
    obtain ⟨v',w',hr,r1,r2⟩:=run_append_arg_grows (P:=Try.prog) w 28 ty 5 i (.int .u8 0) 1 1 Try.underlying28 h2 h3 h4 h5 rfl (by omega) ⟨g,0,none⟩ l.length l.length (bv l) (by simp [bv]) hF.cells ad news.length c (bv news) (by simp [bv]) hnews (by omega) (by unfold maxLen;omega) (by omega)
    refine ⟨v',w',hr,OwnB.base (show OwnB w.heap.size w' v' (l++news) from by unfold OwnB;rw [List.length_append,bv_append];exact r1) hbase,⟨r2.os,r2.tape,r2.output,r2.size,fun k hk _=>r2.block k hk (by simp)⟩⟩
theorem step_bytes {ops:Array Oper} {o:Oper} {a:Act} {w:World} {K:Act→World→Prop} {Q:Exit→Act→World→Prop} {E:Prop} (hgd:o.guard=none) (s x:Operand)
    (ho:o.op=.call { callee:=.builtin .append,args:=#[s,x],argTypes:=#[28,28] })
    (B:Nat) (v:Value) (l:List Nat) (hs:a.eval s=v) (hown:RowW B w v l)
    (ad:Addr) (c:Nat) (news:List Nat) (hne:0<news.length) (hx:a.eval x=.slice (some ad) news.length c) (hnews:∀ j u,(bv news)[j]?=some u→w.cell? (ad.add j)=some u)
    (hb:l.length+news.length≤140737488355328) (hbase:B≤w.heap.size)
    (hK:∀ v' w',OwnB B w' v' (l++news)→w.grownBy w' v.ownBlock→K (a.put o.dst v') w') :
    if Region.wanted o (yielded ops a.tmps)=true then Oper.wp Try.prog o a w K Q else E:=by
  have hw:Region.wanted o (yielded ops a.tmps)=true:=by simp [Region.wanted,hgd]
  rw [if_pos hw]
  obtain ⟨v',w',hr,r1,r2⟩:=run_append_row w B o.type v l hown ad c news hne hnews hb hbase
  unfold Oper.wp
  simp only [ho,execOp,resolve,invoke,builtin,Sem.run_bind,Sem.run_pure,Result.andThen_ok,List.map_toArray,List.map_cons,List.map_nil,hs,hx,hr]
  exact hK v' w' r1 r2
def WrC (B wb:Nat) (w:World) (k:Nat):Prop:=k=wb ∨ (B≤k∧∃ cur fr,w.heap[k]?=some (.cells cur 5 fr))
abbrev Wrk (B wb:Nat) (w w':World):Prop:=Chg (WrC B wb w) w w'
structure WrS (B wb:Nat) (w:World) (l:List Nat):Prop where
  ex:∃ q c,w.heap[wb]?=some (.cells #[.slice q l.length c] 68 (0,0))∧RowW B w (.slice q l.length c) l
  le:B≤wb
  size:B≤w.heap.size
section
variable {B wb:Nat} {w w1 w2 w':World} {l:List Nat}
theorem Wrk.refl (w:World):Wrk B wb w w:=Chg.refl _ w
theorem Wrk.trans (h:Wrk B wb w w1) (k:Wrk B wb w1 w2):Wrk B wb w w2:=Chg.trans h k (by
  intro i hi
  by_cases hlt:w.heap.size≤i
  · exact .inr hlt
  refine .inl ?_
  rcases hi with hi | ⟨h1,cur,fr,h2⟩
  · exact .inl hi
  · by_cases hc:WrC B wb w i
    · exact hc
    · rw [h.block i (by omega) hc] at h2
      exact .inr ⟨h1,cur,fr,h2⟩)
theorem Wrk.below (h:Wrk B wb w w') (hle:B≤wb) (hB:B≤w.heap.size):Below B w w':=Chg.below h hB (by
  intro i hi
  rcases hi with rfl | ⟨h1,_⟩
  · exact hle
  · exact h1)
theorem Wrk.of_below (h:Below w.heap.size w w'):Wrk B wb w w':=Below.chg h (Nat.le_refl _) _
theorem Wrk.drew (h:Wrk B wb w w'):Wrk B wb w w'.drew:=Chg.drew h
theorem Wrk.alloc (h:Wrk B wb w w') (o:Obj):Wrk B wb w (w'.alloc o):=Chg.alloc h o
theorem Wrk.keep (h:Wrk B wb w w') {k:Nat} {cur:Array Value} {T:TypeId} {fr:Nat × Nat} (hk:w.heap[k]?=some (.cells cur T fr)) (hT:T ≠ 5) (hn:k ≠ wb):w'.heap[k]?=some (.cells cur T fr) :=
  h.heap hk (by
    rintro (e | ⟨_,c2,f2,e⟩)
    · exact hn e
    · rw [hk] at e;injection e with e;injection e with _ e2 _;exact hT e2)
theorem WrS.lt (h:WrS B wb w l):wb<w.heap.size:=by obtain ⟨q,c,h1,_⟩:=h.ex;exact heap_lt h1
theorem WrS.stay (h:WrS B wb w l) (hb:Below w.heap.size w w'):WrS B wb w' l:=by
  obtain ⟨q,c,h1,h2⟩:=h.ex
  exact ⟨⟨q,c,(hb.block _ (heap_lt h1)).trans h1,h2.stay hb⟩,h.le,Nat.le_trans h.size hb.size⟩
theorem WrS.drew (h:WrS B wb w l):WrS B wb w.drew l:=h.stay (be_drew (Below.refl _ _))
theorem WrS.alloc (h:WrS B wb w l) (o:Obj):WrS B wb (w.alloc o) l:=h.stay ((Below.refl _ _).alloc (Nat.le_refl _) o)
theorem wr_end {q:Option Addr} {c:Nat} {w9:World} {v9:Value} {news:List Nat} (hw:w.heap[wb]?=some (.cells #[.slice q l.length c] 68 (0,0))) (ho:RowW B w (.slice q l.length c) l) (hle:B≤wb) (hB:B≤w.heap.size)
    (h9:OwnB B w9 v9 (l++news)) (hg:w.grownBy w9 (Value.ownBlock (.slice q l.length c))) :
    WrS B wb (w9.setCell ⟨wb,0,none⟩ v9) (l++news)∧Wrk B wb w (w9.setCell ⟨wb,0,none⟩ v9):=by
  obtain ⟨q9,c9,rfl⟩:=h9.slice
  have hne:Value.ownBlock (.slice q l.length c) ≠ some wb:=fun e=>by
    obtain ⟨cur,fr,k2⟩:=ho.type e
    rw [hw] at k2;injection k2 with k2;injection k2 with _ k3 _;exact absurd k3 (by decide)
  have hC:Wrk B wb w w9:=grown_chg hg (fun k e=>.inl (by
    obtain ⟨cur,fr,k2⟩:=ho.type e
    exact .inr ⟨(ho.lt k e).1,cur,_,k2⟩))
  have hw9:w9.heap[wb]?=some (.cells #[.slice q l.length c] 68 (0,0)):=(hg.block _ (heap_lt hw) (fun e=>hne e.symm)).trans hw
  have hne9:Value.ownBlock (.slice q9 (l++news).length c9) ≠ some wb:=fun e=>by
    obtain ⟨cur,k2⟩:=own_type h9 e
    rw [hw9] at k2;injection k2 with k2;injection k2 with _ k3 _;exact absurd k3 (by decide)
  refine ⟨⟨⟨q9,c9,?_,.inl (ownsRow_setCell_other h9 hne9 _)⟩,hle,?_⟩,hC.setCell (.inl (.inl rfl)) _⟩
  · rw [heap_set hw9 0 _];rfl
  · have:=hg.size;simp [World.setCell];omega
set_option maxRecDepth 100000 in
set_option maxHeartbeats 2000000 in
theorem number_any (hW:WrS B wb w l) (n:Nat) (hn:n<W64) (hl:l.length+10≤140737488355328) :
    Calls Try.prog 85 #[.pointer (some ⟨wb,0,none⟩),.int .u64 (n:Int)] w fun e w'=>e=.returned (.tuple #[])∧WrS B wb w' (l++putU n)∧Wrk B wb w w':=by
  obtain ⟨q,c,h1,h2⟩:=hW.ex
  have hle:=hW.le
  have hsz:=hW.size
  obtain ⟨ln,hln⟩:∃ k,l.length=k:=⟨_,rfl⟩
  rw [hln] at h1 h2
  have hc:=cell_of (j:=0) h1 rfl
  have hfz:=free_of (j:=0) h1
  have hten:=putU_ten hn
  have HP:=Lib.hid (fun (W:World)=>Put_any none 0 [] n hn (.inl ⟨rfl,rfl,rfl⟩) (by simp) W (ByIn.nil _ _ _))
  have H1:=Lib.hid h1
  have H2:=Lib.hid h2
  have HE:=Lib.hid (fun (w1 w9:World) (v9:Value) (hb:Below w.heap.size w w1) (h9:OwnB B w9 v9 (l++putU n)) (hg:w1.grownBy w9 (Value.ownBlock (.slice q ln c)))=>by
    have k1:w1.heap[wb]?=some (.cells #[.slice q l.length c] 68 (0,0)):=by rw [hln];exact (hb.block _ (heap_lt h1)).trans h1
    have k2:RowW B w1 (.slice q l.length c) l:=by rw [hln];exact h2.stay hb
    rw [← hln] at hg
    have k3:=wr_end k1 k2 hle (Nat.le_trans hsz hb.size) h9 hg
    exact (⟨k3.1,(Wrk.of_below hb).trans k3.2⟩:WrS B wb (w9.setCell ⟨wb,0,none⟩ v9) (l++putU n)∧Wrk B wb w (w9.setCell ⟨wb,0,none⟩ v9)))
  have HC:=Lib.hid (fun (w1 w9:World) (hb:Below w.heap.size w w1) (hg:w1.grownBy w9 (Value.ownBlock (.slice q ln c)))=>by
    have k1:=(hb.block _ (heap_lt h1)).trans h1
    have k2:=h2.stay hb
    have hne:Value.ownBlock (.slice q ln c) ≠ some wb:=fun e=>by
      obtain ⟨cur,fr,k3⟩:=k2.type e
      rw [k1] at k3;injection k3 with k3;injection k3 with _ k4 _;exact absurd k4 (by decide)
    have k5:=(hg.block _ (heap_lt k1) (fun e=>hne e.symm)).trans k1
    exact (⟨cell_of (j:=0) k5 rfl,free_of k5⟩:w9.cell? ⟨wb,0,none⟩=some (.slice q ln c)∧w9.frozen? ⟨wb,0,none⟩=false))
  have HK:=Lib.hid (fun (w1:World) (hb:Below w.heap.size w w1)=>(⟨h2.stay hb,cell_of (j:=0) ((hb.block _ (heap_lt h1)).trans h1) rfl⟩:RowW B w1 (.slice q ln c) l∧w1.cell? ⟨wb,0,none⟩=some (.slice q ln c)))
  have HN:=Lib.hid (putU_ne n)
  clear h1 h2 hW
  go_enter Try.func85,Try.ntmps85
  go_region_law
    (first
      | (go_simp;go_at_call 100;refine (HP.out _).mono ?_;rintro e w1 ⟨v,rfl,hO,hb⟩;rw [List.nil_append] at hO;obtain ⟨g,cp,rfl,hg0⟩:=row_form hO (List.length_pos_iff.2 HN.out);have hbw:Below w.heap.size w w1:=Below.trans (be_drew (Below.refl _ _)) hb;have hcl:=by_cells hO.in;obtain ⟨hown1,k1⟩:=HK.out w1 hbw)
      | (refine step_bytes rfl (.tmp 8) (.tmp 10) rfl B (.slice q ln c) l (by simp [Act.eval]) hown1 ⟨g,0,none⟩ cp (putU n) (List.length_pos_iff.2 HN.out) (by simp [Act.eval]) hcl (by omega) (Nat.le_trans hsz hbw.size) ?_;intro v9 w9 h9 hg9;obtain ⟨q9,c9,rfl⟩:=h9.slice;obtain ⟨k4,k5⟩:=HC.out _ _ hbw hg9))
  all_goals
    go_end0
    rw [List.length_append,hln] at h9
    exact ⟨rfl,HE.out _ _ _ hbw h9 hg9⟩
end
end Go.Proofs.Ytbfkgcapkffecaa
namespace Go.Proofs.Ytbfkgcapkffecaa
open Go Go.RowKit Go.Proofs.Mm Go.Sort
def Wr (l F l':List Nat):Prop:=l'=l++F ∨ (262136<l'.length∧262136<l.length+F.length)
theorem Wr.all (l F:List Nat):Wr l F (l++F):=.inl rfl
theorem Wr.trans {l F G l1 l2:List Nat} (h:Wr l F l1) (k:Wr l1 G l2):Wr l (F++G) l2:=by
  unfold Wr at *
  rw [List.length_append]
  rcases h with rfl | ⟨h1,h2⟩
  · rcases k with rfl | ⟨k1,k2⟩
    · left;rw [List.append_assoc]
    · right;rw [List.length_append] at k2;omega
  · rcases k with rfl | ⟨k1,k2⟩
    · right;rw [List.length_append];omega
    · right;omega
theorem Wr.more {l F G l1:List Nat} (h:Wr l F l1) (hb:262136<l1.length):Wr l (F++G) l1:=by
  unfold Wr at *
  rw [List.length_append]
  rcases h with rfl | ⟨h1,h2⟩
  · right;rw [List.length_append] at hb ⊢;omega
  · right;omega
structure WrP (B wb:Nat) (w:World) (l F:List Nat) (k:Nat) (w':World) (l':List Nat):Prop where
  st:WrS B wb w' l'
  wr:Wr l F l'
  len:max l'.length 262136≤max l.length 262136+k
  kp:Wrk B wb w w'
def WrE (B wb:Nat) (w:World) (l F:List Nat) (k:Nat) (e:Ending) (w':World):Prop:=e=.returned (.tuple #[])∧∃ l',WrP B wb w l F k w' l'
def lowC (B:Nat) (w:World):Cl:=fun a=>if a.block<B then w.cell? a else none
theorem lowC.cell {B:Nat} {w:World} {a:Addr} {v:Value} (h:lowC B w a=some v):w.cell? a=some v:=by
  unfold lowC at h
  split at h
  · exact h
  · cases h
theorem lowC.le {B:Nat} {w w':World} (hb:Below B w w'):CLe (lowC B w) (lowC B w'):=by
  intro a v h
  unfold lowC at h ⊢
  split at h
  · rename_i ha
    rw [if_pos ha,World.cell?_of_block (hb.block _ ha)]
    exact h
  · cases h
theorem lowC.of (w:World):CLe (wC w) (lowC w.heap.size w):=by
  intro a v h
  have:w.cell? a=some v:=h
  unfold lowC
  rw [if_pos (World.block_lt_of_cell? _ _ this)]
  exact h
theorem lowC.w {B:Nat} {w:World}:CLe (lowC B w) (wC w):=fun _ _ h=>lowC.cell h
theorem LaAt.le {C D:Cl} {q:Option Addr} {l:List Int} (h:LaAt C q l) (hc:CLe C D):LaAt D q l:=fun j hj=>let ⟨g,o,h1,h2⟩:=h j hj;⟨g,o,h1,hc _ _ h2⟩
theorem ArAt.le {C D:Cl} {q:Option Addr} {l:List (Int × Int)} (h:ArAt C q l) (hc:CLe C D):ArAt D q l:=fun j hj=>let ⟨g,o,h1,h2,h3⟩:=h j hj;⟨g,o,h1,hc _ _ h2,hc _ _ h3⟩
theorem InAt.le {C D:Cl} {q:Option Addr} {l:List (Int × Int)} (h:InAt C q l) (hc:CLe C D):InAt D q l:=fun j hj=>let ⟨g,o,h1,h2,h3⟩:=h j hj;⟨g,o,h1,hc _ _ h2,hc _ _ h3⟩
section
variable {B wb:Nat} {w:World} {l:List Nat}
theorem wrp_of {F:List Nat} {k:Nat} {w':World} (h:WrS B wb w' (l++F)) (hk:F.length≤k) (hc:Wrk B wb w w'):WrP B wb w l F k w' (l++F) :=
  ⟨h,Wr.all _ _,by rw [List.length_append];omega,hc⟩
theorem WrP.trans {F G:List Nat} {j k:Nat} {w1 w2:World} {l1 l2:List Nat} (h:WrP B wb w l F j w1 l1) (h2:WrP B wb w1 l1 G k w2 l2):WrP B wb w l (F++G) (j+k) w2 l2 :=
  ⟨h2.st,h.wr.trans h2.wr,by have:=h.len;have:=h2.len;omega,h.kp.trans h2.kp⟩
theorem WrP.before {F:List Nat} {k:Nat} {w0 w1:World} {l1:List Nat} (hb:Wrk B wb w0 w) (h:WrP B wb w l F k w1 l1):WrP B wb w0 l F k w1 l1:=⟨h.st,h.wr,h.len,hb.trans h.kp⟩
set_option maxRecDepth 100000 in
theorem isTooLong_any (hW:WrS B wb w l) (hl:l.length≤1000000) :
    Calls Try.prog 34 #[.pointer (some ⟨wb,0,none⟩)] w fun e w'=>e=.returned (.bool (decide (262136<l.length)))∧w'=w:=by
  obtain ⟨q,c,h1,h2⟩:=hW.ex
  obtain ⟨ln,hln⟩:∃ k,l.length=k:=⟨_,rfl⟩
  rw [hln] at h1 h2 hl ⊢
  have hc:=cell_of (j:=0) h1 rfl
  clear h1 h2 hW
  have e1:decide ((262144:Int)<((ln:Int)+8))=decide (262136<ln):=by
    by_cases h:262136<ln
    · rw [decide_eq_true h,decide_eq_true (by omega)]
    · rw [decide_eq_false h,decide_eq_false (by omega)]
  go_enter Try.func34,Try.ntmps34
  go_wp2
  go_ret
  exact ⟨by simp [e1],rfl⟩
set_option maxRecDepth 100000 in
theorem label_any (hW:WrS B wb w l) (x:Int) (hx:labW x) (hl:l.length≤1000000) :
    Calls Try.prog 59 #[.pointer (some ⟨wb,0,none⟩),.int .u64 x] w (WrE B wb w l (labF x) 10):=by
  obtain ⟨n,rfl⟩:∃ n:Nat,x=n:=⟨x.toNat,by have:=hx.1;omega⟩
  have hn:n<W64:=by have:=hx.2;unfold W64;omega
  have HN:=Lib.hid ((number_any hW n hn (by omega)).mono (R':=WrE B wb w l (labF n) 10) (by
    rintro e w' ⟨he,h1,h2⟩
    exact ⟨he,_,wrp_of h1 (putU_ten hn) h2⟩))
  clear hW hx hn hl
  go_enter Try.func59,Try.ntmps59
  go_wp2_with fail
  refine HN.out.mono ?_
  rintro e w' ⟨rfl,h⟩
  have HH:=Lib.hid h
  clear h
  go_wp2
  go_end0
  exact ⟨rfl,HH.out⟩
set_option maxRecDepth 100000 in
theorem size_any' (hW:WrS B wb w l) (x:Int) (hl:l.length≤1000000) :
    Calls Try.prog 86 #[.pointer (some ⟨wb,0,none⟩),.int .i64 x] w (WrE B wb w l (szF x) 10):=by
  obtain ⟨n,hnx⟩:∃ n:Nat,x % 18446744073709551616=n:=⟨(x % 18446744073709551616).toNat,by omega⟩
  have hn:n<W64:=by unfold W64;omega
  have hf:szF x=putU n:=by unfold szF;rw [hnx];rfl
  have hwr:IntKind.u64.wrap x=(n:Int):=by rw [wrapU64,hnx]
  rw [hf]
  have HN:=Lib.hid ((number_any hW n hn (by omega)).mono (R':=WrE B wb w l (putU n) 10) (by
    rintro e w' ⟨he,h1,h2⟩
    exact ⟨he,_,wrp_of h1 (putU_ten hn) h2⟩))
  clear hW hn hl hf hnx
  go_enter Try.func86,Try.ntmps86
  go_wp2_with fail
  refine HN.out.mono ?_
  rintro e w' ⟨rfl,h⟩
  have HH:=Lib.hid h
  clear h
  go_wp2
  go_end0
  exact ⟨rfl,HH.out⟩
set_option maxRecDepth 100000 in
theorem array_any (hW:WrS B wb w l) (x:Int × Int) (hx:labW x.2) (hl:l.length≤900000) :
    Calls Try.prog 61 #[.pointer (some ⟨wb,0,none⟩),.agg #[.int .i64 x.1,.int .u64 x.2]] w (WrE B wb w l (arF x) 20):=by
  obtain ⟨a,b⟩:=x
  simp only at hx ⊢
  have hlt:=hW.lt
  obtain ⟨v1,hv1⟩:∃ v,w.alloc (.cells #[.int .i64 a,.int .u64 b] 55)=v:=⟨_,rfl⟩
  have HA:=Lib.hid (show Wrk B wb w (w.alloc (.cells #[.int .i64 a,.int .u64 b] 55)) from (Wrk.refl w).alloc _)
  have HB:=Lib.hid (show InB (w.alloc (.cells #[.int .i64 a,.int .u64 b] 55)) w.heap.size #[.int .i64 a,.int .u64 b] 55 from InB.new _ _ _)
  have HS:=Lib.hid (size_any' (hW.alloc (.cells #[.int .i64 a,.int .u64 b] 55)) a (by omega))
  have HX:=Lib.hid hx
  have HLT:=Lib.hid hlt
  have HL:=Lib.hid hl
  clear hW hx hl hv1
  go_enter Try.func61,Try.ntmps61
  go_wp2_with fail
  refine HS.out.mono ?_
  rintro e w1 ⟨rfl,l1,h1⟩
  have hk:=h1.kp.keep HB.out (by decide) (by have:=HLT.out;omega)
  have c1:=cell_of (j:=1) hk rfl
  have hlen:l1.length≤1000000:=by have:=h1.len;have:=HL.out;omega
  have HL2:=Lib.hid (label_any h1.st b HX.out hlen)
  have H1:=Lib.hid h1
  clear h1 hk hlen
  go_wp2_with fail
  refine HL2.out.mono ?_
  rintro e w2 ⟨rfl,l2,h2⟩
  have H2:=Lib.hid h2
  clear h2
  go_wp2
  go_end0
  exact ⟨rfl,l2,(H1.out.trans H2.out).before HA.out⟩
set_option maxRecDepth 100000 in
set_option maxHeartbeats 2000000 in
theorem instr_any (hW:WrS B wb w l) (op a:Int) (hm:mayI op a=true) (h1:-9223372036854775808≤a) (h2:a<9223372036854775808) (hl:l.length≤1000000) :
    Calls Try.prog 88 #[.pointer (some ⟨wb,0,none⟩),inV op a] w (WrE B wb w l (inF (op,a)) 20):=by
  have hlt:=hW.lt
  obtain ⟨q,c,k1,k2⟩:=(hW.alloc (.cells #[.int .i64 op,.int .i64 a] 57)).ex
  have hle:=hW.le
  have hsz:=hW.size
  obtain ⟨ln,hln⟩:∃ k,l.length=k:=⟨_,rfl⟩
  rw [hln] at k1 k2
  have h11:=putI_len op a h1 h2
  have HN:=Lib.hid (show putI op a ≠ [] from by unfold putI;rw [hm];simp)
  have HP:=Lib.hid (fun (W:World)=>cPut_any W op a h1 h2)
  obtain ⟨w0,hw0⟩:∃ v,w.alloc (.cells #[.int .i64 op,.int .i64 a] 57)=v:=⟨_,rfl⟩
  have HI:=Lib.hid (show InB w0 w.heap.size #[.int .i64 op,.int .i64 a] 57 from by rw [← hw0];exact InB.new _ _ _)
  have HA:=Lib.hid (show Wrk B wb w w0 from by rw [← hw0];exact (Wrk.refl w).alloc _)
  have HZ:=Lib.hid (show w0.heap.size=w.heap.size+1 from by rw [← hw0];simp)
  rw [hw0] at k1 k2
  have hc:=cell_of (j:=0) k1 rfl
  have hfz:=free_of (j:=0) k1
  have i0:=HI.out.cell (j:=0) rfl
  have i1:=HI.out.cell (j:=1) rfl
  have HE:=Lib.hid (fun (w1 w9:World) (v9:Value) (hb:Below w0.heap.size w0 w1) (h9:OwnB B w9 v9 (l++putI op a)) (hg:w1.grownBy w9 (Value.ownBlock (.slice q ln c)))=>by
    have j1:w1.heap[wb]?=some (.cells #[.slice q l.length c] 68 (0,0)):=by rw [hln];exact (hb.block _ (heap_lt k1)).trans k1
    have j2:RowW B w1 (.slice q l.length c) l:=by rw [hln];exact k2.stay hb
    rw [← hln] at hg
    have j3:=wr_end j1 j2 hle (by have:=hb.size;have:=HZ.out;omega) h9 hg
    exact (⟨_,wrp_of j3.1 (by omega) (HA.out.trans ((Wrk.of_below hb).trans j3.2))⟩:∃ l',WrP B wb w l (putI op a) 20 (w9.setCell ⟨wb,0,none⟩ v9) l'))
  have HC:=Lib.hid (fun (w1 w9:World) (hb:Below w0.heap.size w0 w1) (hg:w1.grownBy w9 (Value.ownBlock (.slice q ln c)))=>by
    have j1:=(hb.block _ (heap_lt k1)).trans k1
    have j2:=k2.stay hb
    have hne:Value.ownBlock (.slice q ln c) ≠ some wb:=fun e=>by
      obtain ⟨cur,fr,k3⟩:=j2.type e
      rw [j1] at k3;injection k3 with k3;injection k3 with _ k4 _;exact absurd k4 (by decide)
    have k5:=(hg.block _ (heap_lt j1) (fun e=>hne e.symm)).trans j1
    exact (⟨cell_of (j:=0) k5 rfl,free_of k5⟩:w9.cell? ⟨wb,0,none⟩=some (.slice q ln c)∧w9.frozen? ⟨wb,0,none⟩=false))
  have HK:=Lib.hid (fun (w1:World) (hb:Below w0.heap.size w0 w1)=>(⟨k2.stay hb,cell_of (j:=0) ((hb.block _ (heap_lt k1)).trans k1) rfl⟩:RowW B w1 (.slice q ln c) l∧w1.cell? ⟨wb,0,none⟩=some (.slice q ln c)))
  have HBS:=Lib.hid (show B≤w0.heap.size from by have:=HZ.out;omega)
  clear k1 k2 hW hm h1 h2
  go_enter Try.func88,Try.ntmps88
  go_upto_region 1 with (fail)
  go_region_law
    (first
      | (go_simp;go_at_call 101;refine (HP.out _).mono ?_;rintro e w1 ⟨⟨v,rfl,hO,-⟩,hb⟩;obtain ⟨g,cp,rfl,hg0⟩:=row_form hO (List.length_pos_iff.2 HN.out);have hbw:Below w0.heap.size w0 w1:=Below.trans (be_drew (Below.refl _ _)) hb;have hcl:=by_cells hO.in;obtain ⟨hown1,j1⟩:=HK.out w1 hbw)
      | (refine step_bytes rfl (.tmp 8) (.tmp 10) rfl B (.slice q ln c) l (by simp [Act.eval]) hown1 ⟨g,0,none⟩ cp (putI op a) (List.length_pos_iff.2 HN.out) (by simp [Act.eval]) hcl (by omega) (Nat.le_trans HBS.out hbw.size) ?_;intro v9 w9 h9 hg9;obtain ⟨q9,c9,rfl⟩:=h9.slice;obtain ⟨j4,j5⟩:=HC.out _ _ hbw hg9))
  all_goals
    go_end0
    rw [List.length_append,hln] at h9
    exact ⟨rfl,HE.out _ _ _ hbw h9 hg9⟩
end
end Go.Proofs.Ytbfkgcapkffecaa
namespace Go.Proofs.Ytbfkgcapkffecaa
open Go Go.RowKit Go.Proofs.Mm Go.Sort
section
variable {lt:Bool} {B wb:Nat} {w:World} {l:List Nat}
set_option maxRecDepth 100000 in
set_option maxHeartbeats 2000000 in
theorem eachL_any (hW:WrS B wb w l) {q:Option Addr} {c:Nat} (xs:List (Int)) (hA:LaAt (lowC B w) q xs) (hx:∀ x ∈ xs,labW x) (hm:xs.length<9223372036854775808) (hl:l.length≤400000) :
    Calls Try.prog 58 #[.pointer (some ⟨wb,0,none⟩),.slice q xs.length c,.func (.func 59) #[.pointer (some ⟨wb,0,none⟩)] #[]] w (WrE B wb w l (listF labF xs) 30):=by
  obtain ⟨n,hn⟩:∃ n,xs.length=n:=⟨_,rfl⟩
  have HN:=Lib.hid hn
  have HA:=Lib.hid hA
  have HX:=Lib.hid hx
  have HL:=Lib.hid hl
  have HS:=Lib.hid hW.size
  have HLE:=Lib.hid hW.le
  have hF:listF labF xs=putU n++xs.flatMap labF:=by unfold listF;rw [hn]
  rw [hF]
  have HM:=Lib.hid ((number_any hW n (by unfold W64;omega) (by omega)).mono (R':=fun e w1=>e=.returned (.tuple #[])∧WrP B wb w l (putU n) 10 w1 (l++putU n)) (by
    rintro e w1 ⟨he,h1,h2⟩
    exact ⟨he,wrp_of h1 (putU_ten (by omega)) h2⟩))
  rw [hn] at hm ⊢
  have hwn:IntKind.u64.wrap (n:Int)=(n:Int):=by rw [wrapU64];omega
  clear hW hA hx hn hl hF
  go_enter Try.func58,Try.ntmps58
  go_wp2_with fail
  refine HM.out.mono ?_
  rintro e w1 ⟨rfl,h1⟩
  have H1:=Lib.hid h1
  clear h1
  go_wp2_with fail
  go_loopw [15] (fun i wr=>∃ (j:Nat) (l':List Nat),j≤n∧i=.int .i64 j∧WrP B wb w l (putU n++(xs.take j).flatMap labF) 30 wr l') (fun i _=>n - (intOf i).toNat)
  case atStart=>exact ⟨0,_,Nat.zero_le _,rfl,by simpa using ⟨H1.out.st,H1.out.wr,by have:=H1.out.len;omega,H1.out.kp⟩⟩
  case round =>
    obtain ⟨j,l',hj,rfl,hP⟩:=hrel
    have HP:=Lib.hid hP
    clear hP
    by_cases hlt:j<n
    · have hj':j<xs.length:=by rw [HN.out];exact hlt
      have hbl:=HP.out.kp.below HLE.out HS.out
      obtain ⟨g,o,rfl,a1⟩:=HA.out j hj'
      have x1:=lowC.cell (lowC.le hbl _ _ a1)
      clear a1
      have HXJ:=Lib.hid (HX.out _ (List.getElem_mem hj'))
      have HTK:=Lib.hid (show (xs.take (j+1)).flatMap labF=(xs.take j).flatMap labF++labF xs[j] from by rw [List.take_succ_eq_append_getElem hj',List.flatMap_append];simp)
      have HDR:=Lib.hid (show xs.flatMap labF=(xs.take j).flatMap labF++(xs.drop j).flatMap labF from by rw [← List.flatMap_append,List.take_append_drop])
      generalize xs[j]=x at *
      
      have hlen:l'.length≤1000000:=by have:=HP.out.len;have:=HL.out;omega
      have hji:(j:Int)<(n:Int):=by omega
      by_cases hbig:262136<l'.length
      · have hT:=isTooLong_any HP.out.st hlen
        rw [decide_eq_true hbig] at hT
        have HT:=Lib.hid hT
        clear hT hlen
        go_wp2_with fail
        refine HT.out.mono ?_
        rintro e w2 ⟨rfl,rfl⟩
        go_wp2
        go_end0
        refine ⟨rfl,l',?_⟩
        rw [HDR.out,← List.append_assoc]
        exact ⟨HP.out.st,HP.out.wr.more hbig,HP.out.len,HP.out.kp⟩
      · have hT:=isTooLong_any HP.out.st hlen
        rw [decide_eq_false hbig] at hT
        have HT:=Lib.hid hT
        clear hT
        have HC:=Lib.hid (label_any HP.out.st x HXJ.out hlen)
        clear hlen
        go_wp2_with fail
        refine HT.out.mono ?_
        rintro e w2 ⟨rfl,rfl⟩
        go_wp2_with fail
        refine HC.out.mono ?_
        rintro e w3 ⟨rfl,l3,h3⟩
        have H3:=Lib.hid h3
        clear h3
        go_wp2
        refine ⟨⟨j+1,l3,by omega,by go_num,?_⟩,by simp [intOf];omega⟩
        rw [HTK.out,← List.append_assoc]
        exact ⟨H3.out.st,HP.out.wr.trans H3.out.wr,by have:=H3.out.len;have:=HP.out.len;omega,HP.out.kp.trans H3.out.kp⟩
    · obtain rfl:j=n:=by omega
      go_wp2
      go_end0
      refine ⟨rfl,l',?_⟩
      have h:=HP.out
      rw [← HN.out,List.take_length,HN.out] at h
      exact h
set_option maxRecDepth 100000 in
set_option maxHeartbeats 2000000 in
theorem eachA_any (hW:WrS B wb w l) {q:Option Addr} {c:Nat} (xs:List (Int × Int)) (hA:ArAt (lowC B w) q xs) (hx:∀ x ∈ xs,arW x) (hm:xs.length<9223372036854775808) (hl:l.length≤400000) :
    Calls Try.prog 60 #[.pointer (some ⟨wb,0,none⟩),.slice q xs.length c,.func (.func 61) #[.pointer (some ⟨wb,0,none⟩)] #[]] w (WrE B wb w l (listF arF xs) 30):=by
  obtain ⟨n,hn⟩:∃ n,xs.length=n:=⟨_,rfl⟩
  have HN:=Lib.hid hn
  have HA:=Lib.hid hA
  have HX:=Lib.hid hx
  have HL:=Lib.hid hl
  have HS:=Lib.hid hW.size
  have HLE:=Lib.hid hW.le
  have hF:listF arF xs=putU n++xs.flatMap arF:=by unfold listF;rw [hn]
  rw [hF]
  have HM:=Lib.hid ((number_any hW n (by unfold W64;omega) (by omega)).mono (R':=fun e w1=>e=.returned (.tuple #[])∧WrP B wb w l (putU n) 10 w1 (l++putU n)) (by
    rintro e w1 ⟨he,h1,h2⟩
    exact ⟨he,wrp_of h1 (putU_ten (by omega)) h2⟩))
  rw [hn] at hm ⊢
  have hwn:IntKind.u64.wrap (n:Int)=(n:Int):=by rw [wrapU64];omega
  clear hW hA hx hn hl hF
  go_enter Try.func60,Try.ntmps60
  go_wp2_with fail
  refine HM.out.mono ?_
  rintro e w1 ⟨rfl,h1⟩
  have H1:=Lib.hid h1
  clear h1
  go_wp2_with fail
  go_loopw [15] (fun i wr=>∃ (j:Nat) (l':List Nat),j≤n∧i=.int .i64 j∧WrP B wb w l (putU n++(xs.take j).flatMap arF) 30 wr l') (fun i _=>n - (intOf i).toNat)
  case atStart=>exact ⟨0,_,Nat.zero_le _,rfl,by simpa using ⟨H1.out.st,H1.out.wr,by have:=H1.out.len;omega,H1.out.kp⟩⟩
  case round =>
    obtain ⟨j,l',hj,rfl,hP⟩:=hrel
    have HP:=Lib.hid hP
    clear hP
    by_cases hlt:j<n
    · have hj':j<xs.length:=by rw [HN.out];exact hlt
      have hbl:=HP.out.kp.below HLE.out HS.out
      obtain ⟨g,o,rfl,a1,a2⟩:=HA.out j hj'
      have x1:=lowC.cell (lowC.le hbl _ _ a1)
      have x2:=lowC.cell (lowC.le hbl _ _ a2)
      clear a1 a2
      have HXJ:=Lib.hid (HX.out _ (List.getElem_mem hj'))
      have HTK:=Lib.hid (show (xs.take (j+1)).flatMap arF=(xs.take j).flatMap arF++arF xs[j] from by rw [List.take_succ_eq_append_getElem hj',List.flatMap_append];simp)
      have HDR:=Lib.hid (show xs.flatMap arF=(xs.take j).flatMap arF++(xs.drop j).flatMap arF from by rw [← List.flatMap_append,List.take_append_drop])
      generalize xs[j]=x at *
      obtain ⟨a,b⟩:=x
      simp only at x1 x2
      have hlen:l'.length≤1000000:=by have:=HP.out.len;have:=HL.out;omega
      have hji:(j:Int)<(n:Int):=by omega
      by_cases hbig:262136<l'.length
      · have hT:=isTooLong_any (HP.out.st.alloc (.cells #[.int .i64 a,.int .u64 b] 55)) hlen
        rw [decide_eq_true hbig] at hT
        have HT:=Lib.hid hT
        clear hT hlen
        go_wp2_with fail
        refine HT.out.mono ?_
        rintro e w2 ⟨rfl,rfl⟩
        go_wp2
        go_end0
        refine ⟨rfl,l',?_⟩
        rw [HDR.out,← List.append_assoc]
        exact ⟨(HP.out.st.alloc _),HP.out.wr.more hbig,HP.out.len,HP.out.kp.alloc _⟩
      · have hT:=isTooLong_any (HP.out.st.alloc (.cells #[.int .i64 a,.int .u64 b] 55)) hlen
        rw [decide_eq_false hbig] at hT
        have HT:=Lib.hid hT
        clear hT
        have HC:=Lib.hid (array_any (HP.out.st.alloc (.cells #[.int .i64 a,.int .u64 b] 55)) (a,b) HXJ.out.2 (by omega))
        clear hlen
        go_wp2_with fail
        refine HT.out.mono ?_
        rintro e w2 ⟨rfl,rfl⟩
        go_wp2_with fail
        refine HC.out.mono ?_
        rintro e w3 ⟨rfl,l3,h3⟩
        have H3:=Lib.hid h3
        clear h3
        go_wp2
        refine ⟨⟨j+1,l3,by omega,by go_num,?_⟩,by simp [intOf];omega⟩
        rw [HTK.out,← List.append_assoc]
        exact ⟨H3.out.st,HP.out.wr.trans H3.out.wr,by have:=H3.out.len;have:=HP.out.len;omega,(HP.out.kp.alloc _).trans H3.out.kp⟩
    · obtain rfl:j=n:=by omega
      go_wp2
      go_end0
      refine ⟨rfl,l',?_⟩
      have h:=HP.out
      rw [← HN.out,List.take_length,HN.out] at h
      exact h
set_option maxRecDepth 100000 in
set_option maxHeartbeats 2000000 in
theorem eachI_any (hW:WrS B wb w l) {q:Option Addr} {c:Nat} (xs:List (Int × Int)) (hA:InAt (lowC B w) q xs) (hx:∀ x ∈ xs,inP x) (hm:xs.length<9223372036854775808) (hl:l.length≤400000) :
    Calls Try.prog 87 #[.pointer (some ⟨wb,0,none⟩),.slice q xs.length c,.func (.func 88) #[.pointer (some ⟨wb,0,none⟩)] #[]] w (WrE B wb w l (listF inF xs) 30):=by
  obtain ⟨n,hn⟩:∃ n,xs.length=n:=⟨_,rfl⟩
  have HN:=Lib.hid hn
  have HA:=Lib.hid hA
  have HX:=Lib.hid hx
  have HL:=Lib.hid hl
  have HS:=Lib.hid hW.size
  have HLE:=Lib.hid hW.le
  have hF:listF inF xs=putU n++xs.flatMap inF:=by unfold listF;rw [hn]
  rw [hF]
  have HM:=Lib.hid ((number_any hW n (by unfold W64;omega) (by omega)).mono (R':=fun e w1=>e=.returned (.tuple #[])∧WrP B wb w l (putU n) 10 w1 (l++putU n)) (by
    rintro e w1 ⟨he,h1,h2⟩
    exact ⟨he,wrp_of h1 (putU_ten (by omega)) h2⟩))
  rw [hn] at hm ⊢
  have hwn:IntKind.u64.wrap (n:Int)=(n:Int):=by rw [wrapU64];omega
  clear hW hA hx hn hl hF
  go_enter Try.func87,Try.ntmps87
  go_wp2_with fail
  refine HM.out.mono ?_
  rintro e w1 ⟨rfl,h1⟩
  have H1:=Lib.hid h1
  clear h1
  go_wp2_with fail
  go_loopw [15] (fun i wr=>∃ (j:Nat) (l':List Nat),j≤n∧i=.int .i64 j∧WrP B wb w l (putU n++(xs.take j).flatMap inF) 30 wr l') (fun i _=>n - (intOf i).toNat)
  case atStart=>exact ⟨0,_,Nat.zero_le _,rfl,by simpa using ⟨H1.out.st,H1.out.wr,by have:=H1.out.len;omega,H1.out.kp⟩⟩
  case round =>
    obtain ⟨j,l',hj,rfl,hP⟩:=hrel
    have HP:=Lib.hid hP
    clear hP
    by_cases hlt:j<n
    · have hj':j<xs.length:=by rw [HN.out];exact hlt
      have hbl:=HP.out.kp.below HLE.out HS.out
      obtain ⟨g,o,rfl,a1,a2⟩:=HA.out j hj'
      have x1:=lowC.cell (lowC.le hbl _ _ a1)
      have x2:=lowC.cell (lowC.le hbl _ _ a2)
      clear a1 a2
      have HXJ:=Lib.hid (HX.out _ (List.getElem_mem hj'))
      have HTK:=Lib.hid (show (xs.take (j+1)).flatMap inF=(xs.take j).flatMap inF++inF xs[j] from by rw [List.take_succ_eq_append_getElem hj',List.flatMap_append];simp)
      have HDR:=Lib.hid (show xs.flatMap inF=(xs.take j).flatMap inF++(xs.drop j).flatMap inF from by rw [← List.flatMap_append,List.take_append_drop])
      generalize xs[j]=x at *
      obtain ⟨a,b⟩:=x
      simp only at x1 x2
      have hlen:l'.length≤1000000:=by have:=HP.out.len;have:=HL.out;omega
      have hji:(j:Int)<(n:Int):=by omega
      by_cases hbig:262136<l'.length
      · have hT:=isTooLong_any (HP.out.st.alloc (.cells #[.int .i64 a,.int .i64 b] 57)) hlen
        rw [decide_eq_true hbig] at hT
        have HT:=Lib.hid hT
        clear hT hlen
        go_wp2_with fail
        refine HT.out.mono ?_
        rintro e w2 ⟨rfl,rfl⟩
        go_wp2
        go_end0
        refine ⟨rfl,l',?_⟩
        rw [HDR.out,← List.append_assoc]
        exact ⟨(HP.out.st.alloc _),HP.out.wr.more hbig,HP.out.len,HP.out.kp.alloc _⟩
      · have hT:=isTooLong_any (HP.out.st.alloc (.cells #[.int .i64 a,.int .i64 b] 57)) hlen
        rw [decide_eq_false hbig] at hT
        have HT:=Lib.hid hT
        clear hT
        have HC:=Lib.hid (instr_any (HP.out.st.alloc (.cells #[.int .i64 a,.int .i64 b] 57)) a b HXJ.out.1 HXJ.out.2.1 HXJ.out.2.2 hlen)
        clear hlen
        go_wp2_with fail
        refine HT.out.mono ?_
        rintro e w2 ⟨rfl,rfl⟩
        go_wp2_with fail
        refine HC.out.mono ?_
        rintro e w3 ⟨rfl,l3,h3⟩
        have H3:=Lib.hid h3
        clear h3
        go_wp2
        refine ⟨⟨j+1,l3,by omega,by go_num,?_⟩,by simp [intOf];omega⟩
        rw [HTK.out,← List.append_assoc]
        exact ⟨H3.out.st,HP.out.wr.trans H3.out.wr,by have:=H3.out.len;have:=HP.out.len;omega,(HP.out.kp.alloc _).trans H3.out.kp⟩
    · obtain rfl:j=n:=by omega
      go_wp2
      go_end0
      refine ⟨rfl,l',?_⟩
      have h:=HP.out
      rw [← HN.out,List.take_length,HN.out] at h
      exact h
end
end Go.Proofs.Ytbfkgcapkffecaa
namespace Go.Proofs.Ytbfkgcapkffecaa
open Go Go.RowKit Go.Proofs.Mm Go.Sort
section
variable {lt:Bool} {B wb:Nat} {w:World} {l:List Nat}
theorem wkeep {b:Nat} {cs:Array Value} {T:TypeId} {w1:World} (h:InB w b cs T) (k:Wrk B wb w w1) (hT:T ≠ 5) (hn:b ≠ wb):InB w1 b cs T:=k.keep h hT hn
theorem LasR.low {v:Value} {xs:List Int} {w1:World} {q:Option Addr} {n c:Nat} (h:LasR lt (lowC B w) v xs) (hv:v=.slice q n c) (hb:Below B w w1):LaAt (lowC B w1) q xs:=by
  subst hv
  exact (h.le (lowC.le hb)).cells
theorem CdR.low {v:Value} {xs:List (Int × Int)} {w1:World} {q:Option Addr} {n c:Nat} (h:CdR lt (lowC B w) v xs) (hv:v=.slice q n c) (hb:Below B w w1):InAt (lowC B w1) q xs:=by
  subst hv
  exact (h.le (lowC.le hb)).cells
set_option maxRecDepth 100000 in
set_option maxHeartbeats 4000000 in
theorem wfunction_any (hW:WrS B wb w l) {vp vr vc:Value} (f:FnM) (hA:FnR1 lt (lowC B w) [.int .u64 f.level,vp,vr,.int .i64 f.locals,.int .i64 f.stack,vc] f) (hf:fnW f) (hok:fnOk f=true) (hl:l.length≤300000) :
    Calls Try.prog 63 #[.pointer (some ⟨wb,0,none⟩),.agg #[.int .u64 f.level,vp,vr,.int .i64 f.locals,.int .i64 f.stack,vc]] w (WrE B wb w l (fnF f) 200):=by
  obtain ⟨vp',vr',vc',e0,z1,z2,z3⟩:=hA
  injection e0 with _ e0;injection e0 with e1 e0;injection e0 with e2 e0;injection e0 with _ e0;injection e0 with _ e0;injection e0 with e3 _
  subst e1 e2 e3
  obtain ⟨qp,cp,rfl⟩:=slx_shape z1
  obtain ⟨qr,cr,rfl⟩:=slx_shape z2
  obtain ⟨qc,cc,rfl⟩:=slx_shape z3
  unfold fnOk at hok
  rw [Bool.and_eq_true,Bool.and_eq_true,List.all_eq_true] at hok
  obtain ⟨f1,⟨f2,f3⟩,⟨f4,f5⟩,f6,f7,f8,f9⟩:=hf
  have HI9:=Lib.hid (fun x hx=>(⟨hok.2.2 x hx,(f9 x hx).2⟩:inP x))
  have HF1:=Lib.hid f1
  have HF3:=Lib.hid f3
  have HF5:=Lib.hid f5
  have HN:=Lib.hid (And.intro f2 (And.intro f4 f8))
  obtain ⟨lv,hlv⟩:∃ n,f.level=n:=⟨_,rfl⟩
  obtain ⟨lo,hlo⟩:∃ n,f.locals=n:=⟨_,rfl⟩
  obtain ⟨stk,hst⟩:∃ n,f.stack=n:=⟨_,rfl⟩
  obtain ⟨np,hnp⟩:∃ n,f.params.length=n:=⟨_,rfl⟩
  obtain ⟨nr,hnr⟩:∃ n,f.results.length=n:=⟨_,rfl⟩
  obtain ⟨nc,hnc⟩:∃ n,f.code.length=n:=⟨_,rfl⟩
  have HNP:=Lib.hid hnp
  have HNR:=Lib.hid hnr
  have HNC:=Lib.hid hnc
  have hF:fnF f=labF lv++(listF labF f.params++(listF labF f.results++(szF lo++(szF stk++listF inF f.code)))):=by unfold fnF;rw [hlv,hlo,hst]
  rw [hF]
  rw [hlv] at HF1
  rw [hlv,hlo,hst,hnp,hnr,hnc]
  have hB1:Below B w (w.alloc (.cells #[.int .u64 lv,.slice qp np cp,.slice qr nr cr,.int .i64 lo,.int .i64 stk,.slice qc nc cc] 60)):=(Below.refl _ _).alloc hW.size _
  have HIB:=Lib.hid (InB.new w #[.int .u64 lv,.slice qp np cp,.slice qr nr cr,.int .i64 lo,.int .i64 stk,.slice qc nc cc] 60)
  have HW0:=Lib.hid (hW.alloc (.cells #[.int .u64 lv,.slice qp np cp,.slice qr nr cr,.int .i64 lo,.int .i64 stk,.slice qc nc cc] 60))
  have HA0:=Lib.hid (show Wrk B wb w (w.alloc (.cells #[.int .u64 lv,.slice qp np cp,.slice qr nr cr,.int .i64 lo,.int .i64 stk,.slice qc nc cc] 60)) from (Wrk.refl w).alloc _)
  have HZ1:=Lib.hid z1
  have HZ2:=Lib.hid z2
  have HZ3:=Lib.hid z3
  have HNE:=Lib.hid (show w.heap.size ≠ wb from by have:=hW.lt;omega)
  have HLE:=Lib.hid hW.le
  have HSZ:=Lib.hid hW.size
  have HL:=Lib.hid hl
  clear hW hl z1 z2 z3 hok f1 f2 f3 f4 f5 f6 f7 f8 f9 hlv hlo hst hnp hnr hnc hF hB1
  have C0:=Lib.hid (label_any HW0.out lv HF1.out (by have:=HL.out;omega))
  go_enter Try.func63,Try.ntmps63
  go_wp2_with fail
  refine C0.out.mono ?_
  rintro e w1 ⟨rfl,l1,h1⟩
  have P1:=Lib.hid (h1.before HA0.out)
  have I1:=Lib.hid (wkeep HIB.out h1.kp (by decide) HNE.out)
  clear h1 C0
  have x1:=I1.out.cell (j:=1) rfl
  have C1:=Lib.hid (eachL_any P1.out.st (c:=cp) f.params (HZ1.out.low rfl (P1.out.kp.below HLE.out HSZ.out)) HF3.out HN.out.1 (by have:=P1.out.len;have:=HL.out;omega))
  rw [HNP.out] at C1
  go_wp2_with fail
  refine C1.out.mono ?_
  rintro e w2 ⟨rfl,l2,h2⟩
  have P2:=Lib.hid (P1.out.trans h2)
  have I2:=Lib.hid (wkeep I1.out h2.kp (by decide) HNE.out)
  clear h2 C1 x1
  have x2:=I2.out.cell (j:=2) rfl
  have C2:=Lib.hid (eachL_any P2.out.st (c:=cr) f.results (HZ2.out.low rfl (P2.out.kp.below HLE.out HSZ.out)) HF5.out HN.out.2.1 (by have:=P2.out.len;have:=HL.out;omega))
  rw [HNR.out] at C2
  go_wp2_with fail
  refine C2.out.mono ?_
  rintro e w3 ⟨rfl,l3,h3⟩
  have P3:=Lib.hid (P2.out.trans h3)
  have I3:=Lib.hid (wkeep I2.out h3.kp (by decide) HNE.out)
  clear h3 C2 x2
  have x3:=I3.out.cell (j:=3) rfl
  have C3:=Lib.hid (size_any' P3.out.st lo (by have:=P3.out.len;have:=HL.out;omega))
  go_wp2_with fail
  refine C3.out.mono ?_
  rintro e w4 ⟨rfl,l4,h4⟩
  have P4:=Lib.hid (P3.out.trans h4)
  have I4:=Lib.hid (wkeep I3.out h4.kp (by decide) HNE.out)
  clear h4 C3 x3
  have x4:=I4.out.cell (j:=4) rfl
  have C4:=Lib.hid (size_any' P4.out.st stk (by have:=P4.out.len;have:=HL.out;omega))
  go_wp2_with fail
  refine C4.out.mono ?_
  rintro e w5 ⟨rfl,l5,h5⟩
  have P5:=Lib.hid (P4.out.trans h5)
  have I5:=Lib.hid (wkeep I4.out h5.kp (by decide) HNE.out)
  clear h5 C4 x4
  have x5:=I5.out.cell (j:=5) rfl
  have C5:=Lib.hid (eachI_any P5.out.st (c:=cc) f.code (HZ3.out.low rfl (P5.out.kp.below HLE.out HSZ.out)) HI9.out HN.out.2.2 (by have:=P5.out.len;have:=HL.out;omega))
  rw [HNC.out] at C5
  go_wp2_with fail
  refine C5.out.mono ?_
  rintro e w6 ⟨rfl,l6,h6⟩
  have P6:=Lib.hid (P5.out.trans h6)
  clear h6 C5 x5
  go_wp2
  go_end0
  refine ⟨rfl,l6,P6.out.st,?_,by have:=P6.out.len;omega,P6.out.kp⟩
  have h:=P6.out.wr
  simpa only [List.append_assoc] using h
theorem fn_shapes {lt:Bool} {C:Cl} {a b d vp vr vc:Value} {f:FnM} (h:FnR1 lt C [a,vp,vr,b,d,vc] f):∃ qp np cp qr nr cr qc nc cc,vp=.slice qp np cp∧vr=.slice qr nr cr∧vc=.slice qc nc cc:=by
  obtain ⟨vp',vr',vc',e0,z1,z2,z3⟩:=h
  injection e0 with _ e0;injection e0 with e1 e0;injection e0 with e2 e0;injection e0 with _ e0;injection e0 with _ e0;injection e0 with e3 _
  subst e1 e2 e3
  obtain ⟨qp,cp,rfl⟩:=slx_shape z1
  obtain ⟨qr,cr,rfl⟩:=slx_shape z2
  obtain ⟨qc,cc,rfl⟩:=slx_shape z3
  exact ⟨_,_,_,_,_,_,_,_,_,rfl,rfl,rfl⟩
theorem FnAt.le {C D:Cl} {q:Option Addr} {xs:List FnM} (h:FnAt lt C q xs) (hc:CLe C D):FnAt lt D q xs:=fun j hj =>
  let ⟨g,o,vp,vr,vc,h1,h2,h3,h4,h5,h6,h7,h8⟩:=h j hj
  ⟨g,o,vp,vr,vc,h1,h2.le hc,hc _ _ h3,hc _ _ h4,hc _ _ h5,hc _ _ h6,hc _ _ h7,hc _ _ h8⟩
set_option maxRecDepth 100000 in
set_option maxHeartbeats 2000000 in
theorem eachF_any (hW:WrS B wb w l) {q:Option Addr} {c:Nat} (xs:List (FnM)) (hA:FnAt lt (lowC B w) q xs) (hx:∀ x ∈ xs,fnW x∧fnOk x=true) (hm:xs.length<9223372036854775808) (hl:l.length≤290000) :
    Calls Try.prog 62 #[.pointer (some ⟨wb,0,none⟩),.slice q xs.length c,.func (.func 63) #[.pointer (some ⟨wb,0,none⟩)] #[]] w (WrE B wb w l (listF fnF xs) 210):=by
  obtain ⟨n,hn⟩:∃ n,xs.length=n:=⟨_,rfl⟩
  have HN:=Lib.hid hn
  have HA:=Lib.hid hA
  have HX:=Lib.hid hx
  have HL:=Lib.hid hl
  have HS:=Lib.hid hW.size
  have HLE:=Lib.hid hW.le
  have hF:listF fnF xs=putU n++xs.flatMap fnF:=by unfold listF;rw [hn]
  rw [hF]
  have HM:=Lib.hid ((number_any hW n (by unfold W64;omega) (by omega)).mono (R':=fun e w1=>e=.returned (.tuple #[])∧WrP B wb w l (putU n) 10 w1 (l++putU n)) (by
    rintro e w1 ⟨he,h1,h2⟩
    exact ⟨he,wrp_of h1 (putU_ten (by omega)) h2⟩))
  rw [hn] at hm ⊢
  have hwn:IntKind.u64.wrap (n:Int)=(n:Int):=by rw [wrapU64];omega
  clear hW hA hx hn hl hF
  go_enter Try.func62,Try.ntmps62
  go_wp2_with fail
  refine HM.out.mono ?_
  rintro e w1 ⟨rfl,h1⟩
  have H1:=Lib.hid h1
  clear h1
  go_wp2_with fail
  go_loopw [15] (fun i wr=>∃ (j:Nat) (l':List Nat),j≤n∧i=.int .i64 j∧WrP B wb w l (putU n++(xs.take j).flatMap fnF) 210 wr l') (fun i _=>n - (intOf i).toNat)
  case atStart=>exact ⟨0,_,Nat.zero_le _,rfl,by simpa using ⟨H1.out.st,H1.out.wr,by have:=H1.out.len;omega,H1.out.kp⟩⟩
  case round =>
    obtain ⟨j,l',hj,rfl,hP⟩:=hrel
    have HP:=Lib.hid hP
    clear hP
    by_cases hlt:j<n
    · have hj':j<xs.length:=by rw [HN.out];exact hlt
      have hbl:=HP.out.kp.below HLE.out HS.out
      obtain ⟨g,o,vp,vr,vc,rfl,a0,a1,a2,a3,a4,a5,a6⟩:=HA.out j hj'
      have HFR:=Lib.hid (a0.le (lowC.le hbl))
      have x1:=lowC.cell (lowC.le hbl _ _ a1)
      have x2:=lowC.cell (lowC.le hbl _ _ a2)
      have x3:=lowC.cell (lowC.le hbl _ _ a3)
      have x4:=lowC.cell (lowC.le hbl _ _ a4)
      have x5:=lowC.cell (lowC.le hbl _ _ a5)
      have x6:=lowC.cell (lowC.le hbl _ _ a6)
      clear a0 a1 a2 a3 a4 a5 a6
      have HXJ:=Lib.hid (HX.out _ (List.getElem_mem hj'))
      have HTK:=Lib.hid (show (xs.take (j+1)).flatMap fnF=(xs.take j).flatMap fnF++fnF xs[j] from by rw [List.take_succ_eq_append_getElem hj',List.flatMap_append];simp)
      have HDR:=Lib.hid (show xs.flatMap fnF=(xs.take j).flatMap fnF++(xs.drop j).flatMap fnF from by rw [← List.flatMap_append,List.take_append_drop])
      generalize xs[j]=x at *
      obtain ⟨qp,np,cp,qr,nr,cr,qc,nc,cc,rfl,rfl,rfl⟩:=fn_shapes HFR.out
      have hlen:l'.length≤1000000:=by have:=HP.out.len;have:=HL.out;omega
      have hji:(j:Int)<(n:Int):=by omega
      by_cases hbig:262136<l'.length
      · have hT:=isTooLong_any (HP.out.st.alloc (.cells #[.int .u64 x.level,.slice qp np cp,.slice qr nr cr,.int .i64 x.locals,.int .i64 x.stack,.slice qc nc cc] 60)) hlen
        rw [decide_eq_true hbig] at hT
        have HT:=Lib.hid hT
        clear hT hlen
        go_wp2_with fail
        refine HT.out.mono ?_
        rintro e w2 ⟨rfl,rfl⟩
        go_wp2
        go_end0
        refine ⟨rfl,l',?_⟩
        rw [HDR.out,← List.append_assoc]
        exact ⟨(HP.out.st.alloc _),HP.out.wr.more hbig,HP.out.len,HP.out.kp.alloc _⟩
      · have hT:=isTooLong_any (HP.out.st.alloc (.cells #[.int .u64 x.level,.slice qp np cp,.slice qr nr cr,.int .i64 x.locals,.int .i64 x.stack,.slice qc nc cc] 60)) hlen
        rw [decide_eq_false hbig] at hT
        have HT:=Lib.hid hT
        clear hT
        have HC:=Lib.hid (wfunction_any (HP.out.st.alloc (.cells #[.int .u64 x.level,.slice qp np cp,.slice qr nr cr,.int .i64 x.locals,.int .i64 x.stack,.slice qc nc cc] 60)) x (HFR.out.le (lowC.le ((Below.refl _ _).alloc HP.out.st.size _))) HXJ.out.1 HXJ.out.2 (by have:=HP.out.len;have:=HL.out;omega))
        clear hlen
        go_wp2_with fail
        refine HT.out.mono ?_
        rintro e w2 ⟨rfl,rfl⟩
        go_wp2_with fail
        refine HC.out.mono ?_
        rintro e w3 ⟨rfl,l3,h3⟩
        have H3:=Lib.hid h3
        clear h3
        go_wp2
        refine ⟨⟨j+1,l3,by omega,by go_num,?_⟩,by simp [intOf];omega⟩
        rw [HTK.out,← List.append_assoc]
        exact ⟨H3.out.st,HP.out.wr.trans H3.out.wr,by have:=H3.out.len;have:=HP.out.len;omega,(HP.out.kp.alloc _).trans H3.out.kp⟩
    · obtain rfl:j=n:=by omega
      go_wp2
      go_end0
      refine ⟨rfl,l',?_⟩
      have h:=HP.out
      rw [← HN.out,List.take_length,HN.out] at h
      exact h
end
end Go.Proofs.Ytbfkgcapkffecaa
