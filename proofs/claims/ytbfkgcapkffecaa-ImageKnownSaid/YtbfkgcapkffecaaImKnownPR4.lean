/- The kit's kept labels and code: what was lent out reads as it did. The kit's lent function. The kit's kept function. Rows that grow; a row that is taken over; the module's rows. The kit's lent module. The kit's kept module. Modules in memory: what stays. The reader: take, number, label, size, instr, -/
import Derived.Test.YtbfkgcapkffecaaImKnownPR3
import Derived.BigQuiet
import Derived.Laws.Rows
import Derived.RangeFuncBox
import Derived.RangeFuncRecord
import Derived.Laws.StructEq
namespace Go.Proofs.Ytbfkgcapkffecaa
open Go Go.RowKit Go.Proofs.Mm
def Yes (w:World) (e:Ending) (w':World):Prop:=e=.returned (.bool true)∧∃ k,w'=w.drewN k
section
variable {lt:Bool} {C:Cl} {q:Option Addr} {n c:Nat}
def LaAt (C:Cl) (q:Option Addr) (l:List Int):Prop:=∀ j (hj:j<l.length),∃ g o,q=some ⟨g,o,none⟩∧C ⟨g,o+j,none⟩=some (.int .u64 l[j])
def InAt (C:Cl) (q:Option Addr) (l:List (Int × Int)):Prop:=∀ j (hj:j<l.length),∃ g o,q=some ⟨g,o,none⟩∧C ⟨g,o+j * 2,none⟩=some (.int .i64 l[j].1)∧C ⟨g,o+j * 2+1,none⟩=some (.int .i64 l[j].2)
def ArAt (C:Cl) (q:Option Addr) (l:List (Int × Int)):Prop:=∀ j (hj:j<l.length),∃ g o,q=some ⟨g,o,none⟩∧C ⟨g,o+j * 2,none⟩=some (.int .i64 l[j].1)∧C ⟨g,o+j * 2+1,none⟩=some (.int .u64 l[j].2)
theorem LasR.cells {l:List Int} (h:LasR lt C (.slice q n c) l):LaAt C q l:=by
  intro j hj
  obtain ⟨g,o,e,h1,rfl,h3⟩:=slx_at (size:=1) h (by decide) la_len j hj
  refine ⟨g,o,h1,?_⟩
  have:=h3 0 _ (by decide) rfl
  simpa using this
theorem CdR.cells {l:List (Int × Int)} (h:CdR lt C (.slice q n c) l):InAt C q l:=by
  intro j hj
  obtain ⟨g,o,e,h1,rfl,h3⟩:=slx_at (size:=2) h (by decide) in_len j hj
  exact ⟨g,o,h1,h3 0 _ (by decide) rfl,h3 1 _ (by decide) rfl⟩
theorem ArsR.cells {l:List (Int × Int)} (h:ArsR lt C (.slice q n c) l):ArAt C q l:=by
  intro j hj
  obtain ⟨g,o,e,h1,rfl,h3⟩:=slx_at (size:=2) h (by decide) ar_len j hj
  exact ⟨g,o,h1,h3 0 _ (by decide) rfl,h3 1 _ (by decide) rfl⟩
end
set_option maxRecDepth 100000 in
set_option maxHeartbeats 1000000 in
theorem labels_same {w:World} {q q':Option Addr} {c c':Nat} (l:List Int) (ha:LaAt (wC w) q l) (hb:LaAt (wC w) q' l) (hmax:l.length≤9223372036854775807) :
    Calls Try.prog 47 #[.slice q l.length c,.slice q' l.length c'] w (Yes w):=by
  obtain ⟨n,hn⟩:∃ n,l.length=n:=⟨_,rfl⟩
  have HN:=Lib.hid hn
  have HA:=Lib.hid ha
  have HB:=Lib.hid hb
  rw [hn] at hmax ⊢
  have hneq:((n:Int) != (n:Int))=false:=by simp
  clear ha hb hn
  go_enter Try.func47,Try.ntmps47
  go_wp2
  go_loopw [5] (fun i wr=>∃ k nq:Nat,k≤n∧i=.int .i64 k∧wr=w.drewN nq) (fun i _=>n - (intOf i).toNat)
  case atStart=>exact ⟨0,0,Nat.zero_le _,rfl,rfl⟩
  case round =>
    obtain ⟨k,nq,hk,rfl,rfl⟩:=hrel
    by_cases hlt:k<n
    · have hk':k<l.length:=by rw [HN.out];exact hlt
      obtain ⟨g,o,rfl,a1⟩:=HA.out k hk'
      obtain ⟨g',o',rfl,b1⟩:=HB.out k hk'
      have x1:w.cell? ⟨g,o+k,none⟩=some (.int .u64 l[k]):=a1
      have y1:w.cell? ⟨g',o'+k,none⟩=some (.int .u64 l[k]):=b1
      clear a1 b1
      generalize l[k]=lb at *
      have hki:(k:Int)<(n:Int):=by omega
      have e2:(lb == lb)=true:=by simp
      have e3:(lb != lb)=false:=by simp
      go_wp2
      go_quiet (fail)
      go_wp2
      exact ⟨⟨k+1,_,by omega,by go_num,rfl⟩,by simp [intOf];omega⟩
    · go_wp2
      go_ret
      exact ⟨rfl,_,rfl⟩
set_option maxRecDepth 100000 in
set_option maxHeartbeats 1000000 in
theorem code_same {w:World} {q q':Option Addr} {c c':Nat} (l:List (Int × Int)) (ha:InAt (wC w) q l) (hb:InAt (wC w) q' l) (hmax:l.length≤9223372036854775807) :
    Calls Try.prog 80 #[.slice q l.length c,.slice q' l.length c'] w (Yes w):=by
  obtain ⟨n,hn⟩:∃ n,l.length=n:=⟨_,rfl⟩
  have HN:=Lib.hid hn
  have HA:=Lib.hid ha
  have HB:=Lib.hid hb
  rw [hn] at hmax ⊢
  have hneq:((n:Int) != (n:Int))=false:=by simp
  clear ha hb hn
  go_enter Try.func80,Try.ntmps80
  go_wp2
  go_loopw [5] (fun i wr=>∃ k nq:Nat,k≤n∧i=.int .i64 k∧wr=w.drewN nq) (fun i _=>n - (intOf i).toNat)
  case atStart=>exact ⟨0,0,Nat.zero_le _,rfl,rfl⟩
  case round =>
    obtain ⟨k,nq,hk,rfl,rfl⟩:=hrel
    by_cases hlt:k<n
    · have hk':k<l.length:=by rw [HN.out];exact hlt
      obtain ⟨g,o,rfl,a1,a2⟩:=HA.out k hk'
      obtain ⟨g',o',rfl,b1,b2⟩:=HB.out k hk'
      have x1:w.cell? ⟨g,o+k * 2,none⟩=some (.int .i64 l[k].1):=a1
      have x2:w.cell? ⟨g,o+k * 2+1,none⟩=some (.int .i64 l[k].2):=a2
      have y1:w.cell? ⟨g',o'+k * 2,none⟩=some (.int .i64 l[k].1):=b1
      have y2:w.cell? ⟨g',o'+k * 2+1,none⟩=some (.int .i64 l[k].2):=b2
      clear a1 b1 a2 b2
      generalize l[k].1=z1 at *
      generalize l[k].2=z2 at *
      have hki:(k:Int)<(n:Int):=by omega
      have hne:∀ W,(binOp .neq 57 (.agg #[.int .i64 z1,.int .i64 z2]) (.agg #[.int .i64 z1,.int .i64 z2])).run Try.prog W=.ok (.bool false) W:=fun W=>by rw [neIns'];simp
      go_wp2
      go_quiet (fail)
      go_wp2
      exact ⟨⟨k+1,_,by omega,by go_num,rfl⟩,by simp [intOf];omega⟩
    · go_wp2
      go_ret
      exact ⟨rfl,_,rfl⟩
end Go.Proofs.Ytbfkgcapkffecaa
namespace Go.Proofs.Ytbfkgcapkffecaa
open Go Go.RowKit Go.Proofs.Mm
section
variable {w w1 w2:World} {m m1 m2:Mem} {b:Nat} {cs:Array Value} {T:TypeId}
structure Kp (w:World) (m:Mem) (b:Nat) (cs:Array Value) (T:TypeId) (w':World) (m':Mem):Prop where
  below:Below w.heap.size w w'
  has:Has w' m'
  more:m.More w m'
  le:w.heap.size≤b
  lies:w'.heap[b]?=some (.cells cs T (0,0))
  new:m' b=none
theorem Kp.cell (h:Kp w m b cs T w1 m1) {i:Nat} {v:Value} (hv:cs[i]?=some v):w1.cell? ⟨b,i,none⟩=some v:=cell_of h.lies hv
theorem Kp.free (h:Kp w m b cs T w1 m1) (i:Nat):w1.frozen? ⟨b,i,none⟩=false:=free_of h.lies
theorem Kp.start (hm:Has w m) (cs:Array Value) (T:TypeId):Kp w m w.heap.size cs T (w.alloc (.cells cs T)) m :=
  ⟨(Below.refl _ w).alloc (Nat.le_refl _) _,has_grown hm ((Below.refl _ w).alloc (Nat.le_refl _) _),Mem.More.refl _ _,Nat.le_refl _,World.alloc_heap_new _ _,hm.lt (Nat.le_refl _)⟩
end
end Go.Proofs.Ytbfkgcapkffecaa
namespace Go.Proofs.Ytbfkgcapkffecaa
open Go Go.RowKit Go.Proofs.Mm
theorem _root_.Go.RowKit.Below.drewK {n:Nat} {a w:World} (h:Below n a w) (k:Nat):Below n a (w.drewN k):=⟨h.os,h.tape,h.output,h.size,h.block⟩
end Go.Proofs.Ytbfkgcapkffecaa
namespace Go.Proofs.Ytbfkgcapkffecaa
open Go Go.RowKit Go.Proofs.Mm
def RwI {α:Type} (E:TypeId) (size:Nat) (R:Mem→List Value→α→Prop) (w:World) (m:Mem) (n:Nat) (l:List α) (vF iV:Value) (wr:World):Prop :=
  ∃ k q c cs m',k≤n∧iV=.int .i64 (k:Nat)∧vF=.slice q k c∧Hid (wr.ownsRow w.heap.size E size (.slice q k c) k cs)∧Hid (Enc (R m') cs (l.take k))∧Hid (Has wr m')∧Hid (m.More w m')∧Hid (∀ b,(Value.slice q k c).ownBlock=some b→m' b=none)∧Hid (Below w.heap.size w wr)
theorem RwI.start {α:Type} {E:TypeId} {size:Nat} {R:Mem→List Value→α→Prop} {w:World} {m:Mem} {n:Nat} {l:List α} (h:Has w m):RwI E size R w m n l (.slice none 0 0) (.int .i64 0) w :=
  ⟨0,none,0,[],m,Nat.zero_le _,rfl,rfl,Lib.hid (World.ownsRow_nil _ _ _ _),Lib.hid Enc.nil,Lib.hid h,Lib.hid (Mem.More.refl _ _),Lib.hid (fun b hb=>by cases hb),Lib.hid (Below.refl _ _)⟩
section
variable {P:Program}
end
theorem ArsR.take {C:Cl} {q:Option Addr} {n c:Nat} {l:List (Int × Int)} (h:ArsR false C (.slice q n c) l):∃ cs,l.length=n∧(q=none→c=0)∧n≤c∧cs.length=n * 2∧(∀ ad,q=some ad→∀ j u,cs[j]?=some u→C (ad.add j)=some u)∧(∀ u ∈ cs,u.oneCell'=true)∧n≤maxLen∧n * 16≤140737488351232∧Enc arR cs l:=by
  obtain ⟨q',c',cs,e,_,hr,he,hb,hmax,hqn,hlc⟩:=h
  obtain ⟨rfl,rfl,rfl⟩:q=q'∧n=l.length∧c=c':=by injection e with a b c;exact ⟨a,b,c⟩
  obtain ⟨hcl,_⟩:=encZ_at ar_len he
  refine ⟨cs,rfl,hqn,hlc,hcl,?_,one_enc ar_one he,by omega,hb,he⟩
  intro ad hq
  rcases hr with hr | ⟨g,o,hq2,hr⟩
  · have:=(List.append_eq_nil_iff.1 hr).1
    subst this
    intro j u hu
    simp at hu
  · rw [hq] at hq2
    injection hq2 with hq2
    subst hq2
    exact enc_cells he (fun j u hu=>hr j u (by rw [List.getElem?_append_left ((List.getElem?_eq_some_iff.1 hu).1)];exact hu))
def FnAt (lt:Bool) (C:Cl) (q:Option Addr) (l:List FnM):Prop:=∀ j (hj:j<l.length),∃ g o vp vr vc,q=some ⟨g,o,none⟩∧FnR1 lt C [.int .u64 l[j].level,vp,vr,.int .i64 l[j].locals,.int .i64 l[j].stack,vc] l[j]∧C ⟨g,o+j * 6,none⟩=some (.int .u64 l[j].level)∧C ⟨g,o+j * 6+1,none⟩=some vp∧C ⟨g,o+j * 6+2,none⟩=some vr∧C ⟨g,o+j * 6+3,none⟩=some (.int .i64 l[j].locals)∧C ⟨g,o+j * 6+4,none⟩=some (.int .i64 l[j].stack)∧C ⟨g,o+j * 6+5,none⟩=some vc
theorem FnsR.cells {lt:Bool} {C:Cl} {q:Option Addr} {n c:Nat} {l:List FnM} (h:FnsR lt C (.slice q n c) l):FnAt lt C q l:=by
  intro j hj
  obtain ⟨g,o,e,h1,hF,h3⟩:=slx_at (size:=6) h (by decide) fn_len j hj
  obtain ⟨vp,vr,vc,rfl,k1,k2,k3⟩:=hF
  exact ⟨g,o,vp,vr,vc,h1,⟨vp,vr,vc,rfl,k1,k2,k3⟩,h3 0 _ (by decide) rfl,h3 1 _ (by decide) rfl,h3 2 _ (by decide) rfl,h3 3 _ (by decide) rfl,h3 4 _ (by decide) rfl,h3 5 _ (by decide) rfl⟩
theorem slx_bytes {α:Type} {mk:List Value} {bs:Nat} {C:Cl} {R:List Value→α→Prop} {v:Value} {l:List α} (h:SlX mk bs C R v l):l.length * bs≤140737488351232:=by
  obtain ⟨_,_,_,_,_,_,_,h1,_⟩:=h;exact h1
end Go.Proofs.Ytbfkgcapkffecaa
namespace Go.Proofs.Ytbfkgcapkffecaa
open Go Go.RowKit Go.Proofs.Mm
theorem be_drew {n:Nat} {a w:World} (h:Below n a w):Below n a w.drew:=⟨h.os,h.tape,h.output,h.size,h.block⟩
theorem be_le {a w w':World} (h:Below a.heap.size a w) (k:Below w.heap.size w w'):Below a.heap.size a w':=h.trans (k.mono h.size)
end Go.Proofs.Ytbfkgcapkffecaa
namespace Go.Proofs.Ytbfkgcapkffecaa
open Go Go.RowKit Go.Proofs.Mm
theorem eqArr (a b c d:Int) (w:World):(Op.equalIn 10000 55 (.agg #[.int .i64 a,.int .u64 b]) (.agg #[.int .i64 c,.int .u64 d])).run Try.prog w=.ok (a == c && b == d) w:=by
  have u3:=Try.underlying3
  have u2:=Try.underlying53
  have hS:Try.prog.underlying 55=some (.struct (Try.prog.fieldsOf 55)):=by kernel_rfl
  have hp:Try.prog.stoodInHeld 55=false:=by kernel_rfl
  rw [show (10000:Nat)=9999+1 from rfl,run_equalIn_agg w 9999 55 _ _ hS hp]
  simp only [Program.fieldsOf,Try.underlying55]
  go_simp
  by_cases h1:a=c <;> by_cases h2:b=d <;> simp [h1,h2]
theorem neArr' (a b c d:Int) (w:World):(binOp .neq 55 (.agg #[.int .i64 a,.int .u64 b]) (.agg #[.int .i64 c,.int .u64 d])).run Try.prog w=.ok (.bool (!(a == c && b == d))) w:=by
  rw [run_neq_struct,eqArr];rfl
end Go.Proofs.Ytbfkgcapkffecaa
namespace Go.Proofs.Ytbfkgcapkffecaa
open Go Go.RowKit Go.Proofs.Mm Go.Sort
theorem MoR.le {lt:Bool} {C D:Cl} {v:Value} {m:MoM} (h:MoR lt C v m) (hc:CLe C D):MoR lt D v m:=by
  obtain ⟨v1,v2,v3,v4,rfl,h1,h2,h3,h4⟩:=h
  exact ⟨v1,v2,v3,v4,rfl,h1.le hc,h2.le hc,h3.le hc,h4.le hc⟩
theorem mod_shape {lt:Bool} {C:Cl} {v:Value} {m:MoM} (h:MoR lt C v m):∃ q1 c1 q2 c2 q3 c3 q4 c4,v=.agg #[.slice q1 m.globals.length c1,.slice q2 m.arrays.length c2,.slice q3 m.channels.length c3,.slice q4 m.funcs.length c4]:=by
  obtain ⟨v1,v2,v3,v4,rfl,h1,h2,h3,h4⟩:=h
  obtain ⟨q1,c1,rfl⟩:=slx_shape h1
  obtain ⟨q2,c2,rfl⟩:=slx_shape h2
  obtain ⟨q3,c3,rfl⟩:=slx_shape h3
  obtain ⟨q4,c4,rfl⟩:=slx_shape h4
  exact ⟨q1,c1,q2,c2,q3,c3,q4,c4,rfl⟩
end Go.Proofs.Ytbfkgcapkffecaa
namespace Go.Proofs.Ytbfkgcapkffecaa
open Go Go.RowKit Go.Proofs.Mm Go.Sort
def rfV (er:Int):List PanicEntry:=[{ v:=.iface 74 (.agg #[.int .i64 er]),recovered:=false }]
abbrev Rdk (rb:Nat) (w w':World):Prop:=Chg (fun k=>k=rb) w w'
structure RdS (rb:Nat) (w:World) (l:List Nat):Prop where
  ex:∃ q c,w.heap[rb]?=some (.cells #[.slice q l.length c] 76 (0,0))∧ByIn rb w q l∧l.length≤c∧c≤maxLen
  bs:bytesL l
section
variable {rb:Nat} {w w':World} {l:List Nat}
theorem by_chg {B:Nat} {S:Nat→Prop} {q:Option Addr} (h:ByIn B w q l) (hc:Chg S w w') (hS:∀ k,S k→B≤k):ByIn B w' q l:=by
  intro i hi
  obtain ⟨b,o,h1,h2,h3⟩:=h i hi
  exact ⟨b,o,h1,h2,hc.cell h3 (fun e=>by have:=hS _ e;simp at this;omega)⟩
theorem by_drop {B:Nat} {q:Option Addr} {k:Nat} (h:ByIn B w q l):ByIn B w (q.map (·.add k)) (l.drop k):=by
  intro i hi
  rw [List.length_drop] at hi
  obtain ⟨b,o,h1,h2,h3⟩:=h (k+i) (by omega)
  refine ⟨b,o+k,by rw [h1];simp [Addr.add],h2,?_⟩
  rw [List.getD_eq_getElem?_getD,List.getElem?_drop,← List.getD_eq_getElem?_getD,Nat.add_assoc]
  exact h3
theorem RdS.lt (h:RdS rb w l):rb<w.heap.size:=by obtain ⟨q,c,h1,_⟩:=h.ex;exact heap_lt h1
theorem RdS.stay (h:RdS rb w l) (hb:Below w.heap.size w w'):RdS rb w' l:=by
  obtain ⟨q,c,h1,h2,h3⟩:=h.ex
  exact ⟨⟨q,c,(hb.block _ (heap_lt h1)).trans h1,h2.below hb (Nat.le_of_lt h.lt) (Nat.le_refl _),h3⟩,h.bs⟩
theorem Rdk.of_below (h:Below w.heap.size w w'):Rdk rb w w':=Below.chg h (Nat.le_refl _) _
theorem RdS.take {k:Nat} (h:RdS rb w l) {w1:World} (hb:Below w.heap.size w w1) (hk:k≤l.length) {q:Option Addr} {c:Nat} (hq:w.heap[rb]?=some (.cells #[.slice q l.length c] 76 (0,0))) :
    RdS rb (w1.setCell ⟨rb,0,none⟩ (.slice (if c=k then q else q.map (·.add k)) (l.length - k) (c - k))) (l.drop k)∧Rdk rb w (w1.setCell ⟨rb,0,none⟩ (.slice (if c=k then q else q.map (·.add k)) (l.length - k) (c - k))):=by
  obtain ⟨q',c',h1,h2,h3,h4⟩:=h.ex
  obtain ⟨rfl,rfl⟩:q'=q∧c'=c:=by
    rw [hq] at h1
    injection h1 with h1
    injection h1 with h1 _ _
    have h1:=congrArg Array.toList h1
    simp at h1
    exact ⟨h1.1.symm,h1.2.symm⟩
  have hs:Rdk rb w (w1.setCell ⟨rb,0,none⟩ (.slice (if c'=k then q' else q'.map (·.add k)) (l.length - k) (c' - k))):=(Rdk.of_below hb).setCell (p:=⟨rb,0,none⟩) (.inl rfl) _
  refine ⟨⟨⟨if c'=k then q' else q'.map (·.add k),c' - k,?_,?_,?_,by omega⟩,bytesL_drop h.bs k⟩,hs⟩
  · rw [heap_set ((hb.block _ (heap_lt h1)).trans h1) 0 _,List.length_drop];rfl
  · have:=by_drop (k:=k) (by_chg h2 hs (fun k e=>by omega))
    by_cases hck:c'=k
    · rw [if_pos hck]
      have hnil:l.drop k=[]:=List.drop_eq_nil_of_le (by omega)
      rw [hnil]
      exact ByIn.nil _ _ _
    · rw [if_neg hck] at this ⊢
      exact this
  · rw [List.length_drop];omega
def RdP {α:Type} (rb:Nat) (w:World) (l:List Nat) (f:List Nat→Option (α × List Nat)) (val:α→Value) (e:Ending) (w':World):Prop :=
  Rdk rb w w'∧match f l with
  | none=>e=.panicked (rfV 120)
  | some (x,r)=>e=.returned (val x)∧RdS rb w' r
theorem RdP.bad {α:Type} {f:List Nat→Option (α × List Nat)} {val:α→Value} (h:f l=none) (hc:Rdk rb w w'):RdP rb w l f val (.panicked (rfV 120)) w':=⟨hc,by rw [h]⟩
theorem RdP.good {α:Type} {f:List Nat→Option (α × List Nat)} {val:α→Value} {x:α} {r:List Nat} (h:f l=some (x,r)) (hc:Rdk rb w w') (hs:RdS rb w' r):RdP rb w l f val (.returned (val x)) w':=⟨hc,by rw [h];exact ⟨rfl,hs⟩⟩
set_option maxRecDepth 100000 in
theorem refuse_any (er:Int) (w:World):Calls Try.prog 70 #[.int .i64 er] w fun e w'=>e=.panicked (rfV er)∧w'=w:=by
  go_enter Try.func70,Try.ntmps70
  go_wp2
  exact ⟨rfl,rfl,rfl⟩
set_option maxRecDepth 100000 in
set_option maxHeartbeats 2000000 in
theorem takeU_any (h:RdS rb w l):Calls Try.prog 103 #[.pointer (some ⟨rb,0,none⟩),.func (.func 104) #[] #[]] w (RdP rb w l rdU (fun n=>.int .u64 (n:Int))):=by
  have hbs:=h.bs
  obtain ⟨q,c,h1,h2,h3,h4⟩:=h.ex
  have HT:=Lib.hid (fun (w1:World) (k:Nat) (hb:Below w.heap.size w w1) (hk:k≤l.length)=>h.take hb hk h1)
  have HG:=Lib.hid (Get_any q c l hbs h3 h4 w (h2.wider (by have:=h.lt;omega)))
  have hc:=cell_of (j:=0) h1 rfl
  obtain ⟨ln,hln⟩:∃ n,l.length=n:=⟨_,rfl⟩
  have HLN:=Lib.hid hln
  have HH1:=Lib.hid h1
  rcases getU_cases l with h0 | h0
  · obtain ⟨k1,k2,k3⟩:=getU_is h0
    have HR:=Lib.hid (show rdU l=some ((getU l).1,l.drop (getU l).2.1) from by unfold rdU;rw [if_pos h0])
    rw [h0] at HG
    generalize (getU l).1=n at *
    generalize (getU l).2.1=k at *
    rw [hln] at HG hc k2 h3
    clear h h1 h2 hbs h0 k1 hln
    go_enter Try.func103,Try.ntmps103
    go_wp2_with fail
    refine HG.out.mono ?_
    rintro e w1 ⟨rfl,hb⟩
    have HB:=Lib.hid hb
    have x0:w1.cell? ⟨rb,0,none⟩=some (.slice q ln c):=(hb.cell (World.block_lt_of_cell? _ _ hc)).trans hc
    have x1:w1.frozen? ⟨rb,0,none⟩=false:=free_of ((hb.block _ (heap_lt HH1.out)).trans HH1.out)
    have HX:=Lib.hid (HT.out w1 k hb (by rw [HLN.out];exact k2))
    rw [HLN.out] at HX
    clear hb hc
    have hk0:(k:Int)≤(ln:Int):=by omega
    by_cases hck:c=k
    · rw [if_pos hck] at HX
      subst hck
      have hz:ln - c=0:=by omega
      rw [hz] at HX
      go_wp2
      go_ret
      exact RdP.good HR.out (by simpa using HX.out.2) (by simpa using HX.out.1)
    · rw [if_neg hck] at HX
      go_wp2
      go_ret
      exact RdP.good HR.out (by simpa using HX.out.2) (by simpa using HX.out.1)
  · have HR:=Lib.hid (show rdU l=none from by unfold rdU;rcases h0 with h0 | h0 <;> rw [h0] <;> rfl)
    obtain ⟨er,her,h5⟩:∃ er:Nat,er ≠ 0∧getU l=(0,0,er):=by rcases h0 with h0 | h0 <;> exact ⟨_,by decide,h0⟩
    rw [h5] at HG
    rw [hln] at HG hc
    clear h h1 h2 hbs h0 hln h5 HT
    have hne:¬ (er:Int)=0:=by omega
    go_enter Try.func103,Try.ntmps103
    go_wp2_with fail
    refine HG.out.mono ?_
    rintro e w1 ⟨rfl,hb⟩
    have HB:=Lib.hid hb
    clear hb
    go_wp2_with fail
    refine (refuse_any _ _).mono ?_
    rintro e w2 ⟨rfl,rfl⟩
    exact ⟨rfl,RdP.bad HR.out (Rdk.of_below HB.out)⟩
end
end Go.Proofs.Ytbfkgcapkffecaa
namespace Go.Proofs.Ytbfkgcapkffecaa
open Go Go.RowKit Go.Proofs.Mm Go.Sort
section
variable {rb:Nat} {w w':World} {l:List Nat}
theorem RdP.none {α:Type} {f:List Nat→Option (α × List Nat)} {val:α→Value} {e:Ending} (h:RdP rb w l f val e w') (hf:f l=none):Rdk rb w w'∧e=.panicked (rfV 120):=by
  obtain ⟨h1,h2⟩:=h
  rw [hf] at h2
  exact ⟨h1,h2⟩
theorem RdP.some {α:Type} {f:List Nat→Option (α × List Nat)} {val:α→Value} {e:Ending} {x:α} {r:List Nat} (h:RdP rb w l f val e w') (hf:f l=some (x,r)):Rdk rb w w'∧e=.returned (val x)∧RdS rb w' r:=by
  obtain ⟨h1,h2⟩:=h
  rw [hf] at h2
  exact ⟨h1,h2⟩
theorem rdLab_none (h:rdU l=none):rdLab l=none:=by unfold rdLab;rw [h]
theorem rdLab_some {n:Nat} {r:List Nat} (h:rdU l=some (n,r)):rdLab l=some ((n:Int),r):=by unfold rdLab;rw [h]
theorem rdSz_none (h:rdU l=none):rdSz l=none:=by unfold rdSz;rw [h]
theorem rdSz_big {n:Nat} {r:List Nat} (h:rdU l=some (n,r)) (hn:9223372036854775807<n):rdSz l=none:=by unfold rdSz;rw [h];simp only;rw [if_pos hn]
theorem rdSz_some {n:Nat} {r:List Nat} (h:rdU l=some (n,r)) (hn:¬ 9223372036854775807<n):rdSz l=some ((n:Int),r):=by unfold rdSz;rw [h];simp only;rw [if_neg hn]
set_option maxRecDepth 100000 in
theorem rnumber_any (h:RdS rb w l):Calls Try.prog 92 #[.pointer (some ⟨rb,0,none⟩)] w (RdP rb w l rdU (fun n=>.int .u64 (n:Int))):=by
  have HT:=Lib.hid (takeU_any h)
  clear h
  cases hu:rdU l with
  | none =>
    have HU:=Lib.hid hu
    clear hu
    go_enter Try.func92,Try.ntmps92
    go_wp2_with fail
    refine HT.out.mono ?_
    rintro e w1 hp
    obtain ⟨h1,rfl⟩:=hp.none HU.out
    exact ⟨rfl,RdP.bad HU.out h1⟩
  | some x =>
    obtain ⟨n,r⟩:=x
    have HU:=Lib.hid hu
    clear hu
    go_enter Try.func92,Try.ntmps92
    go_wp2_with fail
    refine HT.out.mono ?_
    rintro e w1 hp
    obtain ⟨h1,rfl,h2⟩:=hp.some HU.out
    have HP:=Lib.hid (RdP.good (val:=fun n:Nat=>Value.int .u64 (n:Int)) HU.out h1 h2)
    clear h1 h2 hp
    go_wp2
    go_ret
    exact HP.out
set_option maxRecDepth 100000 in
theorem rlabel_any (h:RdS rb w l):Calls Try.prog 73 #[.pointer (some ⟨rb,0,none⟩)] w (RdP rb w l rdLab (fun n=>.int .u64 n)):=by
  have HT:=Lib.hid (rnumber_any h)
  clear h
  cases hu:rdU l with
  | none =>
    have HU:=Lib.hid hu
    clear hu
    go_enter Try.func73,Try.ntmps73
    go_wp2_with fail
    refine HT.out.mono ?_
    rintro e w1 hp
    obtain ⟨h1,rfl⟩:=hp.none HU.out
    exact ⟨rfl,RdP.bad (rdLab_none HU.out) h1⟩
  | some x =>
    obtain ⟨n,r⟩:=x
    have HU:=Lib.hid hu
    clear hu
    go_enter Try.func73,Try.ntmps73
    go_wp2_with fail
    refine HT.out.mono ?_
    rintro e w1 hp
    obtain ⟨h1,rfl,h2⟩:=hp.some HU.out
    have HP:=Lib.hid (RdP.good (val:=fun n:Int=>Value.int .u64 n) (rdLab_some HU.out) h1 h2)
    clear h1 h2 hp
    go_wp2
    go_ret
    exact HP.out
set_option maxRecDepth 100000 in
theorem rsize_any (h:RdS rb w l):Calls Try.prog 93 #[.pointer (some ⟨rb,0,none⟩)] w (RdP rb w l rdSz (fun n=>.int .i64 n)):=by
  have HT:=Lib.hid (rnumber_any h)
  clear h
  cases hu:rdU l with
  | none =>
    have HU:=Lib.hid hu
    clear hu
    go_enter Try.func93,Try.ntmps93
    go_wp2_with fail
    refine HT.out.mono ?_
    rintro e w1 hp
    obtain ⟨h1,rfl⟩:=hp.none HU.out
    exact ⟨rfl,RdP.bad (rdSz_none HU.out) h1⟩
  | some x =>
    obtain ⟨n,r⟩:=x
    have HU:=Lib.hid hu
    clear hu
    by_cases hn:9223372036854775807<n
    · have hi:(9223372036854775807:Int)<(n:Int):=by omega
      go_enter Try.func93,Try.ntmps93
      go_wp2_with fail
      refine HT.out.mono ?_
      rintro e w1 hp
      obtain ⟨h1,rfl,h2⟩:=hp.some HU.out
      have HP:=Lib.hid h1
      clear h1 h2 hp
      go_wp2_with fail
      refine (refuse_any _ _).mono ?_
      rintro e w2 ⟨rfl,rfl⟩
      exact ⟨rfl,RdP.bad (rdSz_big HU.out hn) HP.out⟩
    · have hi:¬ (9223372036854775807:Int)<(n:Int):=by omega
      have hwr:IntKind.i64.wrap (n:Int)=(n:Int):=by rw [wrap_i64];exact wrap_id (by omega) (by omega)
      go_enter Try.func93,Try.ntmps93
      go_wp2_with fail
      refine HT.out.mono ?_
      rintro e w1 hp
      obtain ⟨h1,rfl,h2⟩:=hp.some HU.out
      have HP:=Lib.hid (RdP.good (val:=fun n:Int=>Value.int .i64 n) (rdSz_some HU.out hn) h1 h2)
      clear h1 h2 hp
      go_wp2
      go_ret
      exact HP.out
end
end Go.Proofs.Ytbfkgcapkffecaa
namespace Go.Proofs.Ytbfkgcapkffecaa
open Go Go.RowKit Go.Proofs.Mm Go.Sort
section
variable {rb:Nat} {w w':World} {l:List Nat}
theorem RdS.alloc (h:RdS rb w l) (o:Obj):RdS rb (w.alloc o) l:=h.stay ((Below.refl _ _).alloc (Nat.le_refl _) o)
theorem RdP.before {α:Type} {f:List Nat→Option (α × List Nat)} {val:α→Value} {w0:World} {e:Ending} (hb:Rdk rb w0 w) (h:RdP rb w l f val e w'):RdP rb w0 l f val e w':=⟨hb.then h.1,h.2⟩
theorem RdS.chg (h:RdS rb w l) (hc:Chg (fun k=>w.heap.size≤k) w w'):RdS rb w' l:=h.stay (hc.below (Nat.le_refl _) (fun _ e=>e))
theorem own_blk {b:Nat} {cs:Array Value} {T:TypeId} (h:InB w b cs T) (hc:Rdk rb w w') (hn:b ≠ rb):InB w' b cs T:=hc.heap h hn
theorem set_new2 {w0 W:World} {S:Nat→Prop} (h:Chg S w0 W) {b i j:Nat} (hb:w0.heap.size≤b) (x y:Value):Chg S w0 ((W.setCell ⟨b,i,none⟩ x).setCell ⟨b,j,none⟩ y) :=
  (h.setCell (p:=⟨b,i,none⟩) (.inr hb) x).setCell (p:=⟨b,j,none⟩) (.inr hb) y
theorem rds_set2 (h:RdS rb w l) {b i j:Nat} (hb:b ≠ rb) (hr:rb≤b) (x y:Value):RdS rb ((w.setCell ⟨b,i,none⟩ x).setCell ⟨b,j,none⟩ y) l:=by
  obtain ⟨q,c,h1,h2,h3⟩:=h.ex
  have hc:Chg (fun k=>k=b) w ((w.setCell ⟨b,i,none⟩ x).setCell ⟨b,j,none⟩ y):=((Chg.refl (fun k=>k=b) w).setCell (p:=⟨b,i,none⟩) (.inl rfl) x).setCell (p:=⟨b,j,none⟩) (.inl rfl) y
  exact ⟨⟨q,c,hc.heap h1 (fun e=>hb e.symm),by_chg h2 hc (fun k e=>by omega),h3⟩,h.bs⟩
set_option maxRecDepth 100000 in
set_option maxHeartbeats 2000000 in
theorem takeI_any (h:RdS rb w l):Calls Try.prog 105 #[.pointer (some ⟨rb,0,none⟩),.func (.func 106) #[] #[]] w (RdP rb w l rdIn (fun x=>inV x.1 x.2)):=by
  have hbs:=h.bs
  have hA:=h.alloc (.cells #[.int .i64 0,.int .i64 0] 57)
  have hlt:=h.lt
  obtain ⟨q,c,h1,h2,h3,h4⟩:=hA.ex
  have HT:=Lib.hid (fun (w1:World) (k:Nat) (hb:Below (w.alloc (.cells #[.int .i64 0,.int .i64 0] 57)).heap.size (w.alloc (.cells #[.int .i64 0,.int .i64 0] 57)) w1) (hk:k≤l.length)=>hA.take hb hk h1)
  have HG:=Lib.hid (cGet_any q c l hbs h3 h4 _ (h2.wider (by have:=hA.lt;omega)))
  have hc:=cell_of (j:=0) h1 rfl
  obtain ⟨ln,hln⟩:∃ n,l.length=n:=⟨_,rfl⟩
  have HLN:=Lib.hid hln
  have HH1:=Lib.hid h1
  have HIB:=Lib.hid (InB.new w #[.int .i64 0,.int .i64 0] 57)
  have HAL:=Lib.hid (show Rdk rb w (w.alloc (.cells #[.int .i64 0,.int .i64 0] 57)) from (Chg.refl _ w).alloc _)
  have hLT:=Lib.hid hlt
  by_cases h0:(getI l).2.2.2=0
  · obtain ⟨k1,k2,k3,_⟩:=getI_is h0
    have HR:=Lib.hid (show rdIn l=some (((getI l).1,(getI l).2.1),l.drop (getI l).2.2.1) from by unfold rdIn;rw [if_pos h0])
    unfold gtV at HG
    rw [h0] at HG
    generalize (getI l).1=op at *
    generalize (getI l).2.1=a at *
    generalize (getI l).2.2.1=k at *
    rw [hln] at HG hc k3 h3
    clear h hA h1 h2 hbs h0 k1 k2 hln hlt
    go_enter Try.func105,Try.ntmps105
    go_wp2_with fail
    refine HG.out.mono ?_
    rintro e w1 ⟨rfl,hb⟩
    have HB:=Lib.hid hb
    have x0:w1.cell? ⟨rb,0,none⟩=some (.slice q ln c):=(hb.cell (World.block_lt_of_cell? _ _ hc)).trans hc
    have x1:w1.frozen? ⟨rb,0,none⟩=false:=free_of ((hb.block _ (heap_lt HH1.out)).trans HH1.out)
    have hI:=HIB.out.le hb
    have d0:=hI.free 0
    have d1:=hI.free 1
    have e0:=hI.cell (j:=0) rfl
    have e1:=hI.cell (j:=1) rfl
    have hs1:w.heap.size<w1.heap.size:=hI.lt
    have hrs:rb<w1.heap.size:=by have:=hLT.out;omega
    have hne:w.heap.size ≠ rb:=by have:=hLT.out;omega
    have HX:=Lib.hid (HT.out w1 k hb (by rw [HLN.out];exact k3))
    rw [HLN.out] at HX
    have HI:=Lib.hid hI
    clear hb hc hI
    have hk0:(k:Int)≤(ln:Int):=by omega
    by_cases hck:c=k
    · rw [if_pos hck] at HX
      subst hck
      have hz:ln - c=0:=by omega
      rw [hz,Nat.sub_self] at HX
      go_wp2
      refine bodyPost_ret (results_cell_row rfl _ _ w.heap.size 57 #[.int .i64 op,.int .i64 a] (0,0) _ rfl (heap_new _ _ (heap_set (heap_set (heap_other HI.out hne) 0 _) 1 _)) Try.underlying57 rfl (by kernel_rfl)) rfl ?_
      exact RdP.good (val:=fun x:Int × Int=>inV x.1 x.2) HR.out ((set_new2 (HAL.out.then HX.out.2) (Nat.le_refl _) _ _).alloc _) ((rds_set2 HX.out.1 hne (by have:=hLT.out;omega) _ _).alloc _)
    · rw [if_neg hck] at HX
      go_wp2
      refine bodyPost_ret (results_cell_row rfl _ _ w.heap.size 57 #[.int .i64 op,.int .i64 a] (0,0) _ rfl (heap_new _ _ (heap_set (heap_set (heap_other HI.out hne) 0 _) 1 _)) Try.underlying57 rfl (by kernel_rfl)) rfl ?_
      exact RdP.good (val:=fun x:Int × Int=>inV x.1 x.2) HR.out ((set_new2 (HAL.out.then HX.out.2) (Nat.le_refl _) _ _).alloc _) ((rds_set2 HX.out.1 hne (by have:=hLT.out;omega) _ _).alloc _)
  · have HR:=Lib.hid (show rdIn l=none from by unfold rdIn;rw [if_neg h0])
    obtain ⟨er,her⟩:∃ er,(getI l).2.2.2=er:=⟨_,rfl⟩
    unfold gtV at HG
    rw [her] at HG h0
    generalize (getI l).1=op at *
    generalize (getI l).2.1=a at *
    generalize (getI l).2.2.1=k at *
    rw [hln] at HG hc h3
    clear h hA h1 h2 hbs her hln hlt HT
    have hne2:¬ (er:Int)=0:=by omega
    go_enter Try.func105,Try.ntmps105
    go_wp2_with fail
    refine HG.out.mono ?_
    rintro e w1 ⟨rfl,hb⟩
    have HB:=Lib.hid (HAL.out.then (Rdk.of_below hb))
    clear hb hc
    go_wp2_with fail
    refine (refuse_any _ _).mono ?_
    rintro e w2 ⟨rfl,rfl⟩
    exact ⟨rfl,RdP.bad HR.out (HB.out.alloc _)⟩
set_option maxRecDepth 100000 in
set_option maxHeartbeats 2000000 in
theorem rinstr_any (h:RdS rb w l):Calls Try.prog 95 #[.pointer (some ⟨rb,0,none⟩)] w (RdP rb w l rdIn (fun x=>inV x.1 x.2)):=by
  have HT:=Lib.hid (takeI_any (h.alloc (.cells #[.int .i64 0,.int .i64 0] 57)))
  have HIB:=Lib.hid (InB.new w #[.int .i64 0,.int .i64 0] 57)
  have HAL:=Lib.hid (show Rdk rb w (w.alloc (.cells #[.int .i64 0,.int .i64 0] 57)) from (Chg.refl _ w).alloc _)
  have hLT:=Lib.hid h.lt
  clear h
  cases hu:rdIn l with
  | none =>
    have HU:=Lib.hid hu
    clear hu
    go_enter Try.func95,Try.ntmps95
    go_wp2_with fail
    refine HT.out.mono ?_
    rintro e w1 hp
    obtain ⟨h1,rfl⟩:=hp.none HU.out
    exact ⟨rfl,RdP.bad HU.out (HAL.out.then h1)⟩
  | some x =>
    obtain ⟨⟨op,a⟩,r⟩:=x
    have HU:=Lib.hid hu
    clear hu
    go_enter Try.func95,Try.ntmps95
    go_wp2_with fail
    refine HT.out.mono ?_
    rintro e w1 hp
    obtain ⟨h1,rfl,h2⟩:=hp.some HU.out
    have hne:w.heap.size ≠ rb:=by have:=hLT.out;omega
    have hI:=own_blk HIB.out h1 hne
    have d0:=hI.free 0
    have d1:=hI.free 1
    have e0:=hI.cell (j:=0) rfl
    have e1:=hI.cell (j:=1) rfl
    have HI:=Lib.hid hI
    have H1:=Lib.hid h1
    have H2:=Lib.hid h2
    clear h1 h2 hp hI
    go_wp2
    refine bodyPost_ret (results_cell_row rfl _ _ w.heap.size 57 #[.int .i64 op,.int .i64 a] (0,0) _ rfl (heap_set (heap_set HI.out 0 _) 1 _) Try.underlying57 rfl (by kernel_rfl)) rfl ?_
    exact RdP.good (val:=fun x:Int × Int=>inV x.1 x.2) HU.out (set_new2 (HAL.out.then H1.out) (Nat.le_refl _) _ _) (rds_set2 H2.out hne (by have:=hLT.out;omega) _ _)
theorem rdAr_none1 (h:rdSz l=none):rdAr l=none:=by unfold rdAr;rw [h]
theorem rdAr_none2 {n:Int} {r:List Nat} (h:rdSz l=some (n,r)) (h2:rdLab r=none):rdAr l=none:=by unfold rdAr;rw [h];simp only;rw [h2]
theorem rdAr_some {n b:Int} {r r':List Nat} (h:rdSz l=some (n,r)) (h2:rdLab r=some (b,r')):rdAr l=some ((n,b),r'):=by unfold rdAr;rw [h];simp only;rw [h2]
set_option maxRecDepth 100000 in
set_option maxHeartbeats 2000000 in
theorem rarray_any (h:RdS rb w l):Calls Try.prog 75 #[.pointer (some ⟨rb,0,none⟩)] w (RdP rb w l rdAr (fun x=>.agg #[.int .i64 x.1,.int .u64 x.2])):=by
  have HT:=Lib.hid (rsize_any (h.alloc (.cells #[.int .i64 0,.int .u64 0] 55)))
  have HIB:=Lib.hid (InB.new w #[.int .i64 0,.int .u64 0] 55)
  have HAL:=Lib.hid (show Rdk rb w (w.alloc (.cells #[.int .i64 0,.int .u64 0] 55)) from (Chg.refl _ w).alloc _)
  have hLT:=Lib.hid h.lt
  clear h
  cases hu:rdSz l with
  | none =>
    have HU:=Lib.hid hu
    clear hu
    go_enter Try.func75,Try.ntmps75
    go_wp2_with fail
    refine HT.out.mono ?_
    rintro e w1 hp
    obtain ⟨h1,rfl⟩:=hp.none HU.out
    exact ⟨rfl,RdP.bad (rdAr_none1 HU.out) (HAL.out.then h1)⟩
  | some x =>
    obtain ⟨n,r⟩:=x
    have HU:=Lib.hid hu
    clear hu
    cases hv:rdLab r with
    | none =>
      have HV:=Lib.hid hv
      clear hv
      go_enter Try.func75,Try.ntmps75
      go_wp2_with fail
      refine HT.out.mono ?_
      rintro e w1 hp
      obtain ⟨h1,rfl,h2⟩:=hp.some HU.out
      have HT2:=Lib.hid (rlabel_any h2)
      have H1:=Lib.hid h1
      clear hp h1 h2
      go_wp2_with fail
      refine HT2.out.mono ?_
      rintro e w2 hp
      obtain ⟨h1,rfl⟩:=hp.none HV.out
      exact ⟨rfl,RdP.bad (rdAr_none2 HU.out HV.out) ((HAL.out.then H1.out).then h1)⟩
    | some y =>
      obtain ⟨b,r'⟩:=y
      have HV:=Lib.hid hv
      clear hv
      go_enter Try.func75,Try.ntmps75
      go_wp2_with fail
      refine HT.out.mono ?_
      rintro e w1 hp
      obtain ⟨h1,rfl,h2⟩:=hp.some HU.out
      have HT2:=Lib.hid (rlabel_any h2)
      have H1:=Lib.hid h1
      clear hp h1 h2
      go_wp2_with fail
      refine HT2.out.mono ?_
      rintro e w2 hp
      obtain ⟨h1,rfl,h2⟩:=hp.some HV.out
      have hne:w.heap.size ≠ rb:=by have:=hLT.out;omega
      have hI:=own_blk (own_blk HIB.out H1.out hne) h1 hne
      have d0:=hI.free 0
      have d1:=hI.free 1
      have e0:=hI.cell (j:=0) rfl
      have e1:=hI.cell (j:=1) rfl
      have HI:=Lib.hid hI
      have H3:=Lib.hid h1
      have H2:=Lib.hid h2
      clear h1 h2 hp hI
      go_wp2
      refine bodyPost_ret (results_cell_row rfl _ _ w.heap.size 55 #[.int .i64 n,.int .u64 b] (0,0) _ rfl (heap_set (heap_set HI.out 0 _) 1 _) Try.underlying55 rfl (by kernel_rfl)) rfl ?_
      exact RdP.good (val:=fun x:Int × Int=>Value.agg #[.int .i64 x.1,.int .u64 x.2]) (rdAr_some HU.out HV.out) (set_new2 ((HAL.out.then H1.out).then H3.out) (Nat.le_refl _) _ _) (rds_set2 H2.out hne (by have:=hLT.out;omega) _ _)
end
end Go.Proofs.Ytbfkgcapkffecaa
