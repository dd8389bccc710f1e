/- Package lex's Scan: for every text and every memory in which the library's error lies. Memory that has been handed out and is not written again; what a call may have turned. Over any program. Plain: where blocks end (P5.3), statement by statement; it is told just if they nest. The parser's state in memory: its words and where it stands. Sign, Arity and BySign of package ops, in every memory. Plain -/
import Derived.Test.YtpcniebkabkikaaGreatDoorVSR3
import Derived.Shelf.RegionOpen
import Derived.Outline
import Derived.Below
import Derived.Deep.Draws
import Derived.Laws.AppendOwn
import Derived.Test.YtpcniebkabkikaaGreatDoorVSR1
import Derived.WalkLawsBesides
import Derived.Test.YtpcniebkabkikaaGreatDoorProg
import Derived.WalkKit
import Derived.Deep.DeepCutAuto
import Derived.Deep.CutBlock
import Derived.LoopTactic
import Derived.Lib.Strings
import Derived.Lib.Hide
import Derived.Maps.AppendAt
import Derived.OwnWalkIn
import Derived.RangeFuncCalls
import Derived.RangeFuncLeaves
import Derived.LoopNIn
import Derived.LoopIn
namespace Go.Proofs.YtpcniebkabkikaaGreatDoor
open Go Go.RowKit
attribute [local go_sem] Oper.semAt_some
def ScanRes (s:ByteArray) (w:World) (e:Ending) (w':World):Prop :=
  Below w.heap.size w w' ∧
  ((∃ (ys:List It) (q:Option Addr) (c:Nat),ys.map It.key=allItems s∧(∀ x ∈ ys,x.e=0)∧e=.returned (.tuple #[.slice q ys.length c,.int .i64 0,.int .i64 0])∧w'.ownsRow w.heap.size 151 4 (.slice q ys.length c) ys.length (tokCells ys)) ∨
   (∃ (pr:List It) (x:It),(pr++[x]).map It.key <+: allItems s∧x.e ≠ 0∧e=.returned (.tuple #[.slice none 0 0,.int .i64 (x.a:Nat),.int .i64 (x.e:Nat)])))
def ScI (w:World) (pre:List It) (W:World):Prop :=
  ((((Boxed W w.heap.size 144 (.slice none 0 0)∧Boxed W (w.heap.size+1) 3 (.int .i64 0))∧Boxed W (w.heap.size+1+1) 29 (.int .i64 0)) ∧
    (∃ v,Boxed W (w.heap.size+1+1+1) 144 v∧W.ownsRow w.heap.size 151 4 v pre.length (tokCells pre)∧∃ q c,v=.slice q pre.length c))∧(∀ x ∈ pre,x.e=0))∧Below w.heap.size w W
def ScX (w:World) (c:Code) (pre:List It) (W:World):Prop :=
  (c=.ret∧∃ pr x,pre=pr++[x]∧x.e ≠ 0∧Boxed W w.heap.size 144 (.slice none 0 0)∧Boxed W (w.heap.size+1) 3 (.int .i64 (x.a:Nat))∧Boxed W (w.heap.size+1+1) 29 (.int .i64 (x.e:Nat)))∧Below w.heap.size w W
theorem scI_own {w:World} {B:Nat} (hB:w.heap.size≤B):OwnFrom B (ScI w) :=
  OwnFrom.and (OwnFrom.and (OwnFrom.and (OwnFrom.and (OwnFrom.and (Own.from (boxed_own _ _ _) _) (Own.from (boxed_own _ _ _) _)) (Own.from (boxed_own _ _ _) _)) (Own.from (holdsRow_own _ _ _ _ _ _ _ _) _)) (fun _ _ _ _ h _ _=>h)) (ownFrom_below (Nat.le_refl _) hB)
theorem scX_own {w:World} {B:Nat} (hB:w.heap.size≤B) (c:Code):OwnFrom B (ScX w c):=by
  refine OwnFrom.and (fun pre X Y row h hg hr=>?_) (ownFrom_below (Nat.le_refl _) hB)
  obtain ⟨h1,pr,x,h2,h3,h4,h5,h6⟩:=h
  have hr':=fun r e=>(hr r e).2
  exact ⟨h1,pr,x,h2,h3,boxed_own _ _ (fun _=>_) () X Y row h4 hg hr',boxed_own _ _ (fun _=>_) () X Y row h5 hg hr',boxed_own _ _ (fun _=>_) () X Y row h6 hg hr'⟩
theorem tok_not_box {W:World} {g B:Nat} {k:Int} {t:ByteArray} {v a:Int} {T:TypeId} {u:Value} (h:TokB W g k t v a) (hb:Boxed W B T u):g ≠ B:=by
  rintro rfl
  have:=(show W.heap[g]?=_ from h).symm.trans hb
  simp at this
theorem sc_ret {w W:World} {B:Nat} {pre:List It} {x:It} (d2:Boxed W w.heap.size 144 (.slice none 0 0)) (d3:Boxed W (w.heap.size+1) 3 (.int .i64 0)) (d4:Boxed W (w.heap.size+1+1) 29 (.int .i64 0)) (hBW:Below w.heap.size w W) (hxe:¬ x.e=0) :
    KeepsFrom B W (((W.setCell ⟨w.heap.size,0,none⟩ (.slice none 0 0)).setCell ⟨w.heap.size+1,0,none⟩ (.int .i64 (x.a:Nat))).setCell ⟨w.heap.size+1+1,0,none⟩ (.int .i64 (x.e:Nat))).drew ∧
    ScX w .ret (pre++[x]) (((W.setCell ⟨w.heap.size,0,none⟩ (.slice none 0 0)).setCell ⟨w.heap.size+1,0,none⟩ (.int .i64 (x.a:Nat))).setCell ⟨w.heap.size+1+1,0,none⟩ (.int .i64 (x.e:Nat))).drew:=by
  refine ⟨((((KeepsOthers.setCell _ _ _).trans (KeepsOthers.setCell _ _ _)).trans (KeepsOthers.setCell _ _ _)).trans (KeepsOthers.drew _)).from _,⟨rfl,pre,x,rfl,hxe,?_,?_,?_⟩,?_⟩
  · exact ((d2.set _).other (by omega) _).other (by omega) _
  · exact ((d3.other (by omega) _).set _).other (by omega) _
  · exact ((d4.other (by omega) _).other (by omega) _).set _
  · exact (((hBW.setCell (p:=⟨w.heap.size,0,none⟩) (Nat.le_refl _) _).setCell (p:=⟨w.heap.size+1,0,none⟩) (by simp) _).setCell (p:=⟨w.heap.size+1+1,0,none⟩) (by simp;omega) _).drew
theorem results16 (tmps:Array Value) (w:World) (b2 b3 b4:Nat) (q:Option Addr) (n c:Nat) (x y:Int) (h2:tmps[2]?.getD undef=.pointer (some ⟨b2,0,none⟩)) (h3:tmps[3]?.getD undef=.pointer (some ⟨b3,0,none⟩)) (h4:tmps[4]?.getD undef=.pointer (some ⟨b4,0,none⟩))
    (c2:w.cell? ⟨b2,0,none⟩=some (.slice q n c)) (c3:w.cell? ⟨b3,0,none⟩=some (.int .i64 x)) (c4:w.cell? ⟨b4,0,none⟩=some (.int .i64 y)) :
    (results Tryz.f91 tmps).run Tryz.prog w=.ok (.tuple #[.slice q n c,.int .i64 x,.int .i64 y]) w:=by
  simp [results,Tryz.results91,go_sem,h2,h3,h4,c2,c3,c4]
theorem cell_put {W:World} {a:Addr} {v:Value} {D:Nat} {o o':Obj} (h:W.cell? a=some v) (hD:W.heap[D]?=some o) (hc:o.isCells=false):(W.putObj D o').cell? a=some v :=
  cell_kept h (grownBy_putObj' W D o') (fun r e=>by cases e;exact ⟨_,hD,hc⟩)
theorem allItems_len (s:ByteArray):(allItems s).length≤65537:=by
  unfold allItems
  split
  · simp
  · have h:=scan_count _ (bl s) (Nat.le_refl _) 0
    rw [bl_length] at h
    unfold itemsOf
    rw [List.length_append,List.length_map]
    split
    · simp;omega
    · simp;omega
theorem row_new (W:World) (L:List Value) (T:TypeId):∀ (j:Nat) (u:Value),L[j]?=some u→(W.alloc (.cells L.toArray T)).cell? ((⟨W.heap.size,0,none⟩:Addr).add j)=some u:=by
  intro j u h
  rw [show ((⟨W.heap.size,0,none⟩:Addr).add j)=⟨W.heap.size,j,none⟩ from by unfold Addr.add;split <;> simp_all,World.cell?_alloc_new]
  simpa using h
set_option maxRecDepth 100000 in
set_option maxHeartbeats 2000000 in
theorem scan_any (s:ByteArray) (w:World) (hE:Env w):Calls Tryz.prog 91 #[.string s] w (ScanRes s w):=by
  obtain ⟨gf,eg,hcall⟩:=each_res s
  obtain ⟨i0,hi,hz0,hz1,hz2⟩:=info29
  have hElt:=hE.lt
  have hmax:=allItems_len s
  refine (callsIn_wide (n:=3)).1 ?_
  refine callsIn_of_wp_marks Tryz.func91 rfl trivial ?_ rfl
  simp only [Tryz.ntmps91,List.size_toArray,List.length_cons,List.length_nil,Nat.reduceAdd,Nat.reduceSub,Array.replicate_succ,Array.replicate_zero,List.push_toArray,List.append_toArray,List.nil_append,List.cons_append]
  gi_wp2
  refine ⟨trivial,?_⟩
  gi_at_call 143
  refine (callsIn_wide.2 (hcall _)).mono ?_
  rintro e w1 ⟨lb,rfl,hb1,hseq⟩
  have b2:=(((Boxed.new w 144 (.slice none 0 0)).alloc (.cells #[.int .i64 0] 3)).alloc (.cells #[.int .i64 0] 29)).alloc (.cells #[.slice none 0 0] 144)
  have b3:=((Boxed.new (w.alloc (.cells #[.slice none 0 0] 144)) 3 (.int .i64 0)).alloc (.cells #[.int .i64 0] 29)).alloc (.cells #[.slice none 0 0] 144)
  have b4:=(Boxed.new ((w.alloc (.cells #[.slice none 0 0] 144)).alloc (.cells #[.int .i64 0] 3)) 29 (.int .i64 0)).alloc (.cells #[.slice none 0 0] 144)
  have b5:=Boxed.new (((w.alloc (.cells #[.slice none 0 0] 144)).alloc (.cells #[.int .i64 0] 3)).alloc (.cells #[.int .i64 0] 29)) 144 (.slice none 0 0)
  simp only [World.size_alloc] at b3 b4 b5
  have hB0:Below w.heap.size w ((((w.alloc (.cells #[.slice none 0 0] 144)).alloc (.cells #[.int .i64 0] 3)).alloc (.cells #[.int .i64 0] 29)).alloc (.cells #[.slice none 0 0] 144)):=((((Below.refl _ w).alloc (Nat.le_refl _) _).alloc (by simp) _).alloc (by simp;omega) _).alloc (by simp;omega) _
  have hsz:((((w.alloc (.cells #[.slice none 0 0] 144)).alloc (.cells #[.int .i64 0] 3)).alloc (.cells #[.int .i64 0] 29)).alloc (.cells #[.slice none 0 0] 144)).heap.size=w.heap.size+1+1+1+1:=by simp
  generalize ((((w.alloc (.cells #[.slice none 0 0] 144)).alloc (.cells #[.int .i64 0] 3)).alloc (.cells #[.int .i64 0] 29)).alloc (.cells #[.slice none 0 0] 144))=w0 at *
  have hgr:=grown_of_below hb1
  have c2:=b2.kept hgr (by simp)
  have c3:=b3.kept hgr (by simp)
  have c4:=b4.kept hgr (by simp)
  have c5:=b5.kept hgr (by simp)
  have hB1:=hB0.trans (hb1.mono (by omega))
  have hs1:=hb1.size
  rw [hsz] at hs1
  clear b2 b3 b4 b5 hb1 hB0 hgr
  have HSZ:=Lib.hid hsz
  have HMAX:=Lib.hid hmax
  clear hsz hmax
  gi_wp2_with fail
  have hE1:=hE.below hB1 hElt
  refine wpIn_rangeFunc_ownH rfl (by omega) (gf:=gf) (lb:=lb) rfl trivial eg
    (hseq (3 - 1) w.heap.size w1.heap.size (w.heap.size+1+1+1) w1 (fun _ _ _=>rfl) (Nat.le_refl _) hElt hB1.size (Nat.le_refl _) hE1 (ptOk_nil c5) (by omega)) (fun h k=>h.trans k) (fun W l o o' h1 h2 h3 h4=>keep_b hB1.size (by omega) W l o o' h1 h2 h3 h4) (Below.refl _ _) (fun _=>rfl)
    (ScI w) (ScX w) (scI_own hB1.size) (scX_own hB1.size)
    ⟨⟨⟨⟨⟨c2,c3⟩,c4⟩,⟨_,c5,World.ownsRow_nil _ _ _ _,⟨_,_,rfl⟩⟩⟩,fun x hx=>absurd hx (by simp)⟩,hB1⟩
    (fun x a' W=>∃ g,TokB W g (x.k:Nat) x.t (x.v:Nat) (x.a:Nat)∧a'={ tmps:=#[.string s,undef,.pointer (some ⟨w.heap.size,0,none⟩),.pointer (some ⟨w.heap.size+1,0,none⟩),.pointer (some ⟨w.heap.size+1+1,0,none⟩),.pointer (some ⟨w.heap.size+1+1+1,0,none⟩),.pointer (some ⟨g,0,none⟩),.int .i64 (x.e:Nat),.string s,.func (.func gf) #[] lb,(tokV (x.k:Nat) x.t (x.v:Nat) (x.a:Nat)),.int .i64 (x.e:Nat),undef,undef,undef,undef,undef,undef,undef,undef,undef,undef],defers:=[] })
    (fun x a' _ X Y row hs hg hr=>by obtain ⟨g,h2,h3⟩:=hs;exact ⟨g,tokB_own g _ _ _ _ () X Y row h2 hg (fun r e=>(hr r e).2),h3⟩)
    ?assign ?body ?done ?stop
  case assign =>
    rintro l pre x W K hI hK
    obtain ⟨⟨⟨⟨⟨d2,d3⟩,d4⟩,⟨v,d5,hrow,hv⟩⟩,hx0⟩,hBW⟩:=hI
    have hK2:=Lib.hid hK
    clear hK
    unfold It.enc
    gi_wp2
    exact hK2.out _ _ ((KeepsOthers.alloc _ _).from _) (keep_alloc hBW.size d5.lt _) ⟨⟨⟨⟨⟨d2.alloc _,d3.alloc _⟩,d4.alloc _⟩,⟨v,d5.alloc _,hrow.alloc _,hv⟩⟩,hx0⟩,hBW.alloc hBW.size _⟩ ⟨W.heap.size,World.alloc_heap_new W _,rfl⟩
  case body =>
    rintro l pre x a' W _ _ hI ⟨g,hT,rfl⟩ hlt
    obtain ⟨⟨⟨⟨⟨d2,d3⟩,d4⟩,⟨v,d5,hrow,⟨q,c,rfl⟩⟩⟩,hx0⟩,hBW⟩:=hI
    obtain ⟨k0,k1,k2,k3,f0,f1,f2,f3⟩:=hT.at_
    by_cases hxe:x.e=0
    · have hxe1:(((x.e:Nat):Int) != 0)=false:=by rw [hxe];rfl
      have hc5:=d5.cell
      have hlen:pre.length+1≤65537:=by have:=HMAX.out;omega
      gi_wp2_with (gi_at_builtin;refine wpListIn_append_own_at _ rfl _ _ 144 rfl w.heap.size 151 i0 _ 4 40 Tryz.underlying144 hi hz0 hz1 hz2 rfl (by decide) _ _ _ rfl (hrow.alloc _) ⟨W.heap.size,0,none⟩ 1 1 [.int .i64 (x.k:Nat),.string x.t,.int .i64 (x.v:Nat),.int .i64 (x.a:Nat)] rfl rfl ?c1 ?c2 ?c3 ?c4 ?c5 ?_)
      case c1=>exact row_new W _ 151
      case c2 =>
        intro u hu
        rcases List.mem_cons.1 hu with rfl | hu
        · rfl
        rcases List.mem_cons.1 hu with rfl | hu
        · rfl
        rcases List.mem_cons.1 hu with rfl | hu
        · rfl
        rcases List.mem_cons.1 hu with rfl | hu
        · rfl
        · exact absurd hu (by simp)
      case c3=>unfold maxLen;omega
      case c4=>omega
      case c5=>have:=hBW.size;simp;omega
      intro v' w9 hown9 hgrow9 _ hat9
      obtain ⟨g',cap',rfl⟩:=ownsRow_succ hown9
      obtain ⟨hv1,hv2,hr2,hk2,hb2⟩:=d5.appended (by decide) hrow hBW.size (by omega) hown9 hgrow9
      have hKp:=keep_append (n₁:=w1.heap.size) d5 hrow hBW.size (by omega) (by omega) hown9 hgrow9 (by rw [World.size_alloc];exact hat9)
      have e2:=((d2.alloc (.cells #[.int .i64 (x.k:Nat),.string x.t,.int .i64 (x.v:Nat),.int .i64 (x.a:Nat)] 151)).kept hgrow9 (d2.not_row (by decide) hrow)).other (B':=w.heap.size+1+1+1) (by omega) (.slice (some ⟨g',0,none⟩) (pre.length+1) cap')
      have e3:=((d3.alloc (.cells #[.int .i64 (x.k:Nat),.string x.t,.int .i64 (x.v:Nat),.int .i64 (x.a:Nat)] 151)).kept hgrow9 (d3.not_row (by decide) hrow)).other (B':=w.heap.size+1+1+1) (by omega) (.slice (some ⟨g',0,none⟩) (pre.length+1) cap')
      have e4:=((d4.alloc (.cells #[.int .i64 (x.k:Nat),.string x.t,.int .i64 (x.v:Nat),.int .i64 (x.a:Nat)] 151)).kept hgrow9 (d4.not_row (by decide) hrow)).other (B':=w.heap.size+1+1+1) (by omega) (.slice (some ⟨g',0,none⟩) (pre.length+1) cap')
      have hc9:=hv1.cell
      have hf9:=hv1.frozen
      have hI2:ScI w (pre++[x]) (w9.setCell ⟨w.heap.size+1+1+1,0,none⟩ (.slice (some ⟨g',0,none⟩) (pre.length+1) cap')):=by
        refine ⟨⟨⟨⟨⟨e2,e3⟩,e4⟩,⟨_,hv2,?_,⟨_,_,by rw [List.length_append];rfl⟩⟩⟩,fun y hy=>?_⟩,hBW.trans hb2⟩
        · rw [List.length_append,tokCells_snoc];exact hr2
        · rcases List.mem_append.1 hy with h | h
          · exact hx0 y h
          · obtain rfl:y=x:=by simpa using h
            exact hxe
      have HI2:=Lib.hid hI2
      have HKP:=Lib.hid hKp
      clear hI2 hKp hv2 hr2 hb2 e2 e3 e4 hown9 hgrow9 hat9 hrow d5 d2 d3 d4 hBW hx0
      gi_wp2
      exact ⟨hk2.from _,HKP.out,HI2.out⟩
    · have hxe1:(((x.e:Nat):Int) != 0)=true:=by simp;omega
      have g2:=d2.cell
      have g3:=d3.cell
      have g4:=d4.cell
      have p2:=d2.frozen
      have p3:=d3.frozen
      have p4:=d4.frozen
      have hbg2:g ≠ w.heap.size:=tok_not_box hT d2
      have hbg3:g ≠ w.heap.size+1:=tok_not_box hT d3
      have hbg4:g ≠ w.heap.size+1+1:=tok_not_box hT d4
      gi_wp2
      have hmo:Tryz.prog.follows .mixedOrders=true:=by kernel_rfl
      gi_region_with_o (fail)
      all_goals gi_wp2
      all_goals exact sc_ret d2 d3 d4 hBW hxe
  case done =>
    rintro D xs W hD hS hI hK
    obtain ⟨⟨⟨⟨⟨d2,d3⟩,d4⟩,⟨v,d5,hrow,⟨q,c,rfl⟩⟩⟩,hx0⟩,hBW⟩:=hI
    have g2:=d2.cell
    have g3:=d3.cell
    have g4:=d4.cell
    have g5:=d5.cell
    have p2:=d2.frozen
    have p3:=d3.frozen
    have p4:=d4.frozen
    gi_wp2
    have e2:=(((d2.set (.slice q xs.length c)).other (B':=w.heap.size+1) (by omega) (.int .i64 0)).other (B':=w.heap.size+1+1) (by omega) (.int .i64 0))
    have e3:=(((d3.other (B':=w.heap.size) (by omega) (.slice q xs.length c)).set (.int .i64 0)).other (B':=w.heap.size+1+1) (by omega) (.int .i64 0))
    have e4:=(((d4.other (B':=w.heap.size) (by omega) (.slice q xs.length c)).other (B':=w.heap.size+1) (by omega) (.int .i64 0)).set (.int .i64 0))
    have hB3:=(((hBW.setCell (p:=⟨w.heap.size,0,none⟩) (Nat.le_refl _) (.slice q xs.length c)).setCell (p:=⟨w.heap.size+1,0,none⟩) (by simp) (.int .i64 0)).setCell (p:=⟨w.heap.size+1+1,0,none⟩) (by simp;omega) (.int .i64 0))
    have hk3:=((((KeepsOthers.setCell W ⟨w.heap.size,0,none⟩ (.slice q xs.length c)).trans (KeepsOthers.setCell _ ⟨w.heap.size+1,0,none⟩ (.int .i64 0))).trans (KeepsOthers.setCell _ ⟨w.heap.size+1+1,0,none⟩ (.int .i64 0))).same D _ hK rfl)
    have hr1:=hrow.kept (grownBy_setCell' W w.heap.size (.slice q xs.length c)) (.inr (d2.not_row (by decide) hrow).symm)
    have hr2:=hr1.kept (grownBy_setCell' _ (w.heap.size+1) (.int .i64 0)) (.inr ((d3.other (B':=w.heap.size) (by omega) (.slice q xs.length c)).not_row (by decide) hr1).symm)
    have hr3:=hr2.kept (grownBy_setCell' _ (w.heap.size+1+1) (.int .i64 0)) (.inr (((d4.other (B':=w.heap.size) (by omega) (.slice q xs.length c)).other (B':=w.heap.size+1) (by omega) (.int .i64 0)).not_row (by decide) hr2).symm)
    generalize (((W.setCell ⟨w.heap.size,0,none⟩ (.slice q xs.length c)).setCell ⟨w.heap.size+1,0,none⟩ (.int .i64 0)).setCell ⟨w.heap.size+1+1,0,none⟩ (.int .i64 0))=W3 at *
    have hlt:=heap_lt hk3
    refine ⟨by simp,.inl ⟨_,_,rfl,run_takeDeferred hk3,?_⟩⟩
    have hr4:=ownsRow_putObj hr3 (.deferred none) hk3 rfl
    have hB4:=hB3.trans (belowK_b (w:=w) (Nat.le_refl _) W3 D _ (.deferred none) (by omega) hk3 rfl rfl)
    exact ⟨_,results16 _ _ _ _ _ _ _ _ _ _ rfl rfl rfl (cell_put e2.cell hk3 rfl) (cell_put e3.cell hk3 rfl) (cell_put e4.cell hk3 rfl),hB4,.inl ⟨xs,q,c,hS,hx0,rfl,hr4⟩⟩
  case stop =>
    rintro D c pre W hD hS hX hK
    obtain ⟨⟨rfl,pr,x,rfl,hxe,d2,d3,d4⟩,hBW⟩:=hX
    have g2:=d2.cell
    have g3:=d3.cell
    have g4:=d4.cell
    gi_wp2
    refine ⟨by simp,.inl ⟨_,_,rfl,run_takeDeferred hK,?_⟩⟩
    have hB4:=hBW.trans (belowK_b (w:=w) (Nat.le_refl _) W D _ (.deferred none) (by omega) hK rfl rfl)
    exact ⟨_,results16 _ _ _ _ _ _ _ _ _ _ rfl rfl rfl (cell_put g2 hK rfl) (cell_put g3 hK rfl) (cell_put g4 hK rfl),hB4,.inr ⟨pr,x,hS,hxe,rfl⟩⟩
end Go.Proofs.YtpcniebkabkikaaGreatDoor
namespace Go.Proofs.Mm
open Go Go.RowKit
structure Chg (S:Nat→Prop) (w w':World):Prop where
  os:w'.os=w.os
  tape:w'.tape=w.tape
  output:w'.output=w.output
  size:w.heap.size≤w'.heap.size
  block:∀ k,k<w.heap.size→¬ S k→w'.heap[k]?=w.heap[k]?
theorem Chg.refl (S:Nat→Prop) (w:World):Chg S w w:=⟨rfl,rfl,rfl,Nat.le_refl _,fun _ _ _=>rfl⟩
theorem Chg.trans {S S':Nat→Prop} {a b c:World} (h:Chg S a b) (k:Chg S' b c) (hs:∀ i,S' i→S i ∨ a.heap.size≤i):Chg S a c :=
  ⟨k.os.trans h.os,k.tape.trans h.tape,k.output.trans h.output,Nat.le_trans h.size k.size,fun i hi hn =>
    (k.block i (Nat.lt_of_lt_of_le hi h.size) (fun e=>by rcases hs i e with q | q <;> first | exact hn q | exact absurd hi (by omega))).trans (h.block i hi hn)⟩
theorem Chg.then {S:Nat→Prop} {a b c:World} (h:Chg S a b) (k:Chg S b c):Chg S a c:=h.trans k fun _ q=>.inl q
theorem Chg.mono {S S':Nat→Prop} {a b:World} (h:Chg S a b) (hs:∀ i,S i→S' i ∨ a.heap.size≤i):Chg S' a b :=
  ⟨h.os,h.tape,h.output,h.size,fun i hi hn=>h.block i hi (fun e=>by rcases hs i e with q | q <;> first | exact hn q | exact absurd hi (by omega))⟩
theorem Chg.drew {S:Nat→Prop} {a w:World} (h:Chg S a w):Chg S a w.drew:=⟨h.os,h.tape,h.output,h.size,h.block⟩
theorem Chg.drewN {S:Nat→Prop} {a w:World} (h:Chg S a w) (n:Nat):Chg S a (w.drewN n):=⟨h.os,h.tape,h.output,h.size,h.block⟩
theorem Chg.alloc {S:Nat→Prop} {a w:World} (h:Chg S a w) (o:Obj):Chg S a (w.alloc o) :=
  h.then ⟨rfl,rfl,rfl,by simp,fun k hk _=>Below.heap_alloc _ _ _ hk⟩
theorem Chg.setCell {S:Nat→Prop} {a w:World} (h:Chg S a w) {p:Addr} (hp:S p.block ∨ a.heap.size≤p.block) (u:Value):Chg S a (w.setCell p u) :=
  h.trans (S':=fun i=>i=p.block) ⟨rfl,rfl,rfl,by simp [World.setCell],fun k _ hk=>Below.heap_setCell _ _ _ _ hk⟩ (fun i e=>by subst e;exact hp)
theorem Chg.below {S:Nat→Prop} {a w:World} (h:Chg S a w) {B:Nat} (hB:B≤a.heap.size) (hS:∀ i,S i→B≤i):Below B a w :=
  ⟨h.os,h.tape,h.output,h.size,fun k hk=>h.block k (by omega) (fun e=>by have:=hS k e;omega)⟩
theorem Below.chg {B:Nat} {a w:World} (h:Below B a w) (hB:a.heap.size≤B) (S:Nat→Prop):Chg S a w :=
  ⟨h.os,h.tape,h.output,h.size,fun k hk _=>h.block k (by omega)⟩
theorem grown_chg {a w:World} {row:Option Nat} (h:a.grownBy w row) {S:Nat→Prop} (hr:∀ k,row=some k→S k ∨ a.heap.size≤k):Chg S a w :=
  ⟨h.os,h.tape,h.output,h.size,fun k hk hn=>h.block k hk (fun e=>by rcases hr k e.symm with q | q <;> first | exact hn q | exact absurd hk (by omega))⟩
theorem Chg.cell {S:Nat→Prop} {a w:World} (h:Chg S a w) {p:Addr} {v:Value} (hc:a.cell? p=some v) (hn:¬ S p.block):w.cell? p=some v :=
  (World.cell?_of_block (h.block _ (World.block_lt_of_cell? _ _ hc) hn)).trans hc
theorem heap_lt {w:World} {b:Nat} {o:Obj} (h:w.heap[b]?=some o):b<w.heap.size:=(Array.getElem?_eq_some_iff.1 h).1
theorem Chg.heap {S:Nat→Prop} {a w:World} (h:Chg S a w) {k:Nat} {o:Obj} (hc:a.heap[k]?=some o) (hn:¬ S k):w.heap[k]?=some o :=
  (h.block k (heap_lt hc) hn).trans hc
abbrev Mem:=Nat→Option Obj
def Has (w:World) (m:Mem):Prop:=∀ k o,m k=some o→w.heap[k]?=some o
def Mem.le (m m':Mem):Prop:=∀ k o,m k=some o→m' k=some o
structure Mem.More (w:World) (m m':Mem):Prop where
  le:m.le m'
  new:∀ k,m k=none→k<w.heap.size→m' k=none
theorem Mem.le.refl (m:Mem):m.le m:=fun _ _ h=>h
theorem Mem.le.trans {a b c:Mem} (h:a.le b) (k:b.le c):a.le c:=fun i o e=>k i o (h i o e)
theorem Mem.More.refl (w:World) (m:Mem):m.More w m:=⟨Mem.le.refl m,fun _ h _=>h⟩
theorem Mem.More.trans {w w':World} {a b c:Mem} (h:a.More w b) (k:b.More w' c) (hw:w.heap.size≤w'.heap.size):a.More w c :=
  ⟨h.le.trans k.le,fun i e hi=>k.new i (h.new i e hi) (by omega)⟩
theorem Mem.More.from {w w':World} {a b:Mem} (h:a.More w' b) (hw:w.heap.size≤w'.heap.size):a.More w b:=⟨h.le,fun i e hi=>h.new i e (by omega)⟩
theorem Has.chg {S:Nat→Prop} {w w':World} {m:Mem} (h:Has w m) (hc:Chg S w w') (hs:∀ k,S k→m k=none):Has w' m:=fun k o e =>
  hc.heap (h k o e) (fun q=>by rw [hs k q] at e;cases e)
theorem Has.lt {w:World} {m:Mem} (h:Has w m) {k:Nat} (hk:w.heap.size≤k):m k=none:=by
  cases e:m k with
  | none=>rfl
  | some o=>have:=heap_lt (h k o e);omega
def Mem.put (m:Mem) (g:Nat) (o:Obj):Mem:=fun k=>if k=g then some o else m k
theorem Mem.put_le {m:Mem} {g:Nat} {o:Obj} (h:m g=none):m.le (m.put g o):=fun k o' e=>by
  unfold Mem.put
  split
  · rename_i e';subst e';rw [h] at e;cases e
  · exact e
theorem Mem.put_same (m:Mem) (g:Nat) (o:Obj):m.put g o g=some o:=by unfold Mem.put;rw [if_pos rfl]
theorem Mem.put_other {m:Mem} {g k:Nat} {o:Obj} (h:k ≠ g):m.put g o k=m k:=by unfold Mem.put;rw [if_neg h]
theorem Has.put {w:World} {m:Mem} {g:Nat} {o:Obj} (h:Has w m) (hg:w.heap[g]?=some o):Has w (m.put g o):=fun k o' e=>by
  unfold Mem.put at e
  split at e
  · rename_i e';subst e';injection e with e;subst e;exact hg
  · exact h k o' e
theorem Mem.More.put {w:World} {m:Mem} {g:Nat} {o:Obj} (h:m g=none) (hg:w.heap.size≤g):m.More w (m.put g o) :=
  ⟨Mem.put_le h,fun k e hk=>by rw [Mem.put_other (by omega)];exact e⟩
def RowM (m:Mem) (E:TypeId) (size:Nat) (v:Value) (n:Nat) (xs:List Value):Prop :=
  xs.length=n * size ∧
  ((v=.slice none 0 0∧n=0) ∨
   ∃ g cap cur,v=.slice (some ⟨g,0,none⟩) n cap∧m g=some (.cells cur E (0,0))∧n≤cap∧cap≤maxLen∧cur.size=cap * size∧cur.toList.take (n * size)=xs)
theorem RowM.le {m m':Mem} {E:TypeId} {size n:Nat} {v:Value} {xs:List Value} (h:RowM m E size v n xs) (hm:m.le m'):RowM m' E size v n xs:=by
  obtain ⟨h1,h2 | ⟨g,cap,cur,h2,h3,h4⟩⟩:=h
  · exact ⟨h1,.inl h2⟩
  · exact ⟨h1,.inr ⟨g,cap,cur,h2,hm _ _ h3,h4⟩⟩
theorem RowM.nil (m:Mem) (E:TypeId) (size:Nat):RowM m E size (.slice none 0 0) 0 []:=⟨by simp,.inl ⟨rfl,rfl⟩⟩
theorem RowM.done {w:World} {m:Mem} {B:Nat} {E:TypeId} {size n:Nat} {v:Value} {xs:List Value} (h:w.ownsRow B E size v n xs) (hm:Has w m) (hv:∀ k,v.ownBlock=some k→m k=none) :
    ∃ m',m.le m'∧(∀ k,m' k ≠ none→m k ≠ none ∨ v.ownBlock=some k)∧Has w m'∧RowM m' E size v n xs:=by
  obtain ⟨h1,⟨rfl,rfl⟩ | ⟨g,cap,cur,rfl,hb,hg,h4⟩⟩:=h
  · exact ⟨m,Mem.le.refl m,fun k h=>.inl h,hm,h1,.inl ⟨rfl,rfl⟩⟩
  · refine ⟨m.put g _,Mem.put_le (hv g rfl),fun k hk=>?_,hm.put hg,h1,.inr ⟨g,cap,cur,rfl,Mem.put_same _ _ _,h4⟩⟩
    by_cases e:k=g
    · subst e;exact .inr rfl
    · rw [Mem.put_other e] at hk;exact .inl hk
theorem RowM.cells {w:World} {m:Mem} {E:TypeId} {size n:Nat} {v:Value} {xs:List Value} (h:RowM m E size v n xs) (hm:Has w m) :
    ∀ j u,xs[j]?=some u→∃ g c,v=.slice (some ⟨g,0,none⟩) n c∧w.cell? ⟨g,j,none⟩=some u∧g<w.heap.size:=by
  intro j u hu
  obtain ⟨h1,⟨rfl,rfl⟩ | ⟨g,cap,cur,rfl,hg,h4,h5,h6,h7⟩⟩:=h
  · have:xs=[]:=List.eq_nil_of_length_eq_zero (by simpa using h1)
    subst this;simp at hu
  · refine ⟨g,cap,rfl,?_,heap_lt (hm _ _ hg)⟩
    rw [cell_of_row w g j cur E (0,0) (hm _ _ hg)]
    rw [← h7,List.getElem?_take] at hu
    split at hu
    · simpa using hu
    · cases hu
end Go.Proofs.Mm
namespace Go.Proofs.Syn
-- the chapter's examples
end Go.Proofs.Syn
namespace Go.Proofs.YtpcniebkabkikaaGreatDoor
open Go Go.RowKit Go.Proofs.Mm
def sb (l:List Nat):ByteArray:=⟨(l.map UInt8.ofNat).toArray⟩
theorem sb_bl (t:ByteArray):sb (bl t)=t:=by
  unfold sb bl
  rw [List.map_map]
  have:(UInt8.ofNat ∘ UInt8.toNat)=id:=by funext x;simp
  rw [this,List.map_id]
theorem eq_text (t s:ByteArray):(t.toList == s.toList)=(bl t == bl s):=by
  rw [Bool.eq_iff_iff,beq_iff_eq,beq_iff_eq,Lib.toList_data,Lib.toList_data]
  constructor
  · intro h;unfold bl;rw [h]
  · intro h;rw [bl_inj h]
def keyOf (x:It):Syn.K:=⟨x.k,bl x.t,x.v⟩
def Tk (ys:List It) (i:Nat):Option Syn.K:=(ys[i]?).map keyOf
def tk (ys:List It) (len i:Nat):It:=ys.getD i ⟨0,⟨#[]⟩,0,len,0⟩
def Ws (ys:List It):Prop:=(∀ x ∈ ys,Good x.k (bl x.t) x.v)∧ys.length≤65536
theorem Tk_none {ys:List It} {i:Nat} (h:ys.length≤i):Tk ys i=none:=by unfold Tk;rw [List.getElem?_eq_none h];rfl
theorem Tk_some {ys:List It} {len i:Nat} (h:i<ys.length):Tk ys i=some (keyOf (tk ys len i)):=by
  unfold Tk tk;rw [List.getElem?_eq_getElem h,List.getD_eq_getElem?_getD,List.getElem?_eq_getElem h];rfl
theorem tk_end (ys:List It) (len:Nat) {i:Nat} (h:ys.length≤i):tk ys len i=⟨0,⟨#[]⟩,0,len,0⟩:=by
  unfold tk;rw [List.getD_eq_getElem?_getD,List.getElem?_eq_none h];rfl
theorem tk_good {ys:List It} (hw:Ws ys) (len:Nat) {i:Nat} (h:i<ys.length):Good (tk ys len i).k (bl (tk ys len i).t) (tk ys len i).v:=by
  refine hw.1 _ ?_
  unfold tk;rw [List.getD_eq_getElem?_getD,List.getElem?_eq_getElem h];exact List.getElem_mem h
def Mk (s:List Nat):Bool:=s != [] && (wordL s).1 == s.length && ((wordL s).2 == 2 || (wordL s).2 == 4)
theorem is_text {ys:List It} (hw:Ws ys) (len i:Nat) {s:List Nat} (hs:Mk s=true):(bl (tk ys len i).t == s)=Syn.is (Tk ys) i s:=by
  unfold Mk at hs
  simp only [Bool.and_eq_true,bne_iff_ne,beq_iff_eq,Bool.or_eq_true] at hs
  by_cases h:i<ys.length
  · have hg:=tk_good hw len h
    unfold Syn.is
    rw [Tk_some (len:=len) h]
    simp only [keyOf]
    by_cases he:bl (tk ys len i).t=s
    · have hk:=hg.word
      rw [he] at hk
      rw [hk] at hs
      rw [he]
      rcases hs.2 with e | e <;> simp only at e <;> simp [e]
    · simp [he]
  · rw [tk_end ys len (by omega)]
    unfold Syn.is
    rw [Tk_none (by omega)]
    rw [beq_eq_false_iff_ne]
    intro e
    exact hs.1.1 e.symm
theorem named_kind (ys:List It) (len i:Nat):(((tk ys len i).k:Int) == 1)=Syn.named (Tk ys) i:=by
  by_cases h:i<ys.length
  · unfold Syn.named;rw [Tk_some (len:=len) h];simp only [keyOf];rw [Bool.eq_iff_iff,beq_iff_eq,beq_iff_eq];omega
  · rw [tk_end ys len (by omega)];unfold Syn.named;rw [Tk_none (by omega)];rfl
structure PS (ys:List It) (len bp bw:Nat) (vp:Value) (w:World) (i:Nat):Prop where
  st:∃ c,w.heap[bp]?=some (.cells #[.slice (some ⟨bw,4 * i,none⟩) (ys.length+1 - i) c,vp] 153 (0,0))∧ys.length+1 - i≤c∧c≤maxLen
  toks:∃ arr,w.heap[bw]?=some (.cells arr 151 (0,0))∧∀ j,j≤ys.length→arr[4 * j]?=some (.int .i64 ((tk ys len j).k:Nat))∧arr[4 * j+1]?=some (.string (tk ys len j).t)∧arr[4 * j+2]?=some (.int .i64 ((tk ys len j).v:Nat))∧arr[4 * j+3]?=some (.int .i64 ((tk ys len j).a:Nat))
  le:i≤ys.length
  few:ys.length≤65536
theorem cell_of {w:World} {b j:Nat} {arr:Array Value} {T:TypeId} {v:Value} (h:w.heap[b]?=some (.cells arr T (0,0))) (hv:arr[j]?=some v):w.cell? ⟨b,j,none⟩=some v:=by
  rw [cell_of_row w b j arr T (0,0) h];exact hv
theorem free_of {w:World} {b j:Nat} {arr:Array Value} {T:TypeId} (h:w.heap[b]?=some (.cells arr T (0,0))):w.frozen? ⟨b,j,none⟩=false:=by
  simp [World.frozen?,h]
theorem heap_set {w:World} {b:Nat} {arr:Array Value} {T:TypeId} (h:w.heap[b]?=some (.cells arr T (0,0))) (j:Nat) (v:Value):(w.setCell ⟨b,j,none⟩ v).heap[b]?=some (.cells (arr.setIfInBounds j v) T (0,0)):=by
  have hlt:=(Array.getElem?_eq_some_iff.1 h).1
  simp only [World.setCell,Array.getElem?_modify,h,Option.map_some,if_true]
  rfl
theorem heap_new (w:World) (o:Obj) {k:Nat} {x:Obj} (h:w.heap[k]?=some x):(w.alloc o).heap[k]?=some x:=by
  rw [Below.heap_alloc _ _ _ (heap_lt h)];exact h
theorem heap_other {w:World} {b j k:Nat} {v:Value} {x:Obj} (h:w.heap[k]?=some x) (hn:k ≠ b):(w.setCell ⟨b,j,none⟩ v).heap[k]?=some x:=by
  rw [Below.heap_setCell _ _ _ _ hn];exact h
theorem PS.ne {ys:List It} {len bp bw i:Nat} {vp:Value} {w:World} (h:PS ys len bp bw vp w i):bw ≠ bp:=by
  obtain ⟨c,h1,_⟩:=h.st
  obtain ⟨arr,h2,_⟩:=h.toks
  rintro rfl
  have:=h1.symm.trans h2
  simp at this
theorem PS.raw {ys:List It} {len bp bw i:Nat} {vp:Value} {w:World} (h:PS ys len bp bw vp w i) :
    ∃ c,w.cell? ⟨bp,0,none⟩=some (.slice (some ⟨bw,4 * i,none⟩) (ys.length+1 - i) c)∧w.frozen? ⟨bp,0,none⟩=false∧ys.length+1 - i≤c∧c≤9223372036854775807 ∧
      w.cell? ⟨bw,4 * i,none⟩=some (.int .i64 ((tk ys len i).k:Nat))∧w.cell? ⟨bw,4 * i+1,none⟩=some (.string (tk ys len i).t)∧w.cell? ⟨bw,4 * i+2,none⟩=some (.int .i64 ((tk ys len i).v:Nat))∧w.cell? ⟨bw,4 * i+3,none⟩=some (.int .i64 ((tk ys len i).a:Nat)):=by
  obtain ⟨c,h1,h2,h3⟩:=h.st
  obtain ⟨arr,h4,h5⟩:=h.toks
  obtain ⟨a0,a1,a2,a3⟩:=h5 i h.le
  exact ⟨c,cell_of h1 rfl,free_of h1,h2,by simpa [maxLen] using h3,cell_of h4 a0,cell_of h4 a1,cell_of h4 a2,cell_of h4 a3⟩
theorem PS.chg {ys:List It} {len bp bw i:Nat} {vp:Value} {w w':World} (h:PS ys len bp bw vp w i) {S:Nat→Prop} (hc:Chg S w w') (h1:¬ S bp) (h2:¬ S bw):PS ys len bp bw vp w' i:=by
  obtain ⟨⟨c,a1,a2⟩,⟨arr,b1,b2⟩,h3,h4⟩:=h
  exact ⟨⟨c,hc.heap a1 h1,a2⟩,⟨arr,hc.heap b1 h2,b2⟩,h3,h4⟩
theorem PS.lt {ys:List It} {len bp bw i:Nat} {vp:Value} {w:World} (h:PS ys len bp bw vp w i):bp<w.heap.size∧bw<w.heap.size:=by
  obtain ⟨⟨c,a1,a2⟩,⟨arr,b1,b2⟩,h3,h4⟩:=h
  exact ⟨heap_lt a1,heap_lt b1⟩
def gv (er a:Int):List PanicEntry:=[{ v:=.iface 149 (.agg #[.int .i64 er,.int .i64 (-1),.int .i64 a]),recovered:=false }]
def Ret {α:Type} (ys:List It) (len:Nat) (S:Nat→Prop) (w:World) (r:Syn.R α) (ok:α→Nat→Ending→World→Prop) (e:Ending) (w':World):Prop :=
  Chg S w w'∧match r with
  | .error (er,k)=>e=.panicked (gv er ((tk ys len k).a:Nat))
  | .ok (x,j)=>ok x j e w'
theorem Ret.ok {α:Type} {ys:List It} {len:Nat} {S:Nat→Prop} {w:World} {x:α} {j:Nat} {ok:α→Nat→Ending→World→Prop} {e:Ending} {w':World} (h:Ret ys len S w (.ok (x,j):Syn.R α) ok e w'):Chg S w w'∧ok x j e w':=h
section
variable {ys:List It} {len bp bw i:Nat} {vp:Value} {w:World}
theorem is_ps (h:PS ys len bp bw vp w i) (s:ByteArray):Calls Tryz.prog 145 #[.pointer (some ⟨bp,0,none⟩),.string s] w fun e w'=>e=.returned (.bool ((tk ys len i).t.toList == s.toList))∧w=w':=by
  obtain ⟨c,h0,hf,hc,hc2,h1,h2,h3,h4⟩:=h.raw
  have hle:=h.le
  have hm:0<ys.length+1 - i:=by omega
  clear h hf hc hc2 h1 h3 h4
  generalize ys.length+1 - i=m at *
  generalize 4 * i=o at *
  go_enter Tryz.func145,Tryz.ntmps145
  go_wp2
  go_ret
  exact ⟨rfl,rfl⟩
theorem isKind_ps (h:PS ys len bp bw vp w i) (s:Int):Calls Tryz.prog 184 #[.pointer (some ⟨bp,0,none⟩),.int .i64 s] w fun e w'=>e=.returned (.bool (((tk ys len i).k:Int) == s))∧w=w':=by
  obtain ⟨c,h0,hf,hc,hc2,h1,h2,h3,h4⟩:=h.raw
  have hle:=h.le
  have hm:0<ys.length+1 - i:=by omega
  clear h hf hc hc2 h2 h3 h4
  generalize ys.length+1 - i=m at *
  generalize 4 * i=o at *
  go_enter Tryz.func184,Tryz.ntmps184
  go_wp2
  go_ret
  exact ⟨rfl,rfl⟩
theorem ps_next (h:PS ys len bp bw vp w i) (hi:i<ys.length) {w':World} (hc:Chg (fun k=>k=bp) w w')
    (h0:∃ c,w'.heap[bp]?=some (.cells #[.slice (some ⟨bw,4 * i+4,none⟩) (ys.length+1 - i - 1) c,vp] 153 (0,0))∧ys.length+1 - i - 1≤c∧c≤maxLen):PS ys len bp bw vp w' (i+1):=by
  obtain ⟨c,h0,h1,h2⟩:=h0
  obtain ⟨arr,h4,h5⟩:=h.toks
  refine ⟨⟨c,?_,by omega,h2⟩,⟨arr,hc.heap h4 h.ne,h5⟩,hi,h.few⟩
  rw [h0,show 4 * (i+1)=4 * i+4 by omega,show ys.length+1 - (i+1)=ys.length+1 - i - 1 by omega]
theorem take_ps (h:PS ys len bp bw vp w i) (hi:i<ys.length):Calls Tryz.prog 146 #[.pointer (some ⟨bp,0,none⟩)] w fun e w'=>e=.returned (.agg #[.int .i64 ((tk ys len i).k:Nat),.string (tk ys len i).t,.int .i64 ((tk ys len i).v:Nat),.int .i64 ((tk ys len i).a:Nat)])∧Chg (fun k=>k=bp) w w'∧PS ys len bp bw vp w' (i+1):=by
  obtain ⟨c,h0,hf,hc,hc2,h1,h2,h3,h4⟩:=h.raw
  obtain ⟨hlt,hlb⟩:=h.lt
  have hfew:=h.few
  obtain ⟨c',g0,g1,g2⟩:=h.st
  have hcc:c'=c:=by
    have:=(cell_of g0 (j:=0) rfl).symm.trans h0
    simpa using this
  subst hcc
  have HP:=Lib.hid (fun w' hc h0=>ps_next (w':=w') h hi hc h0)
  have HG:=Lib.hid g0
  have hm:2≤ys.length+1 - i:=by omega
  clear h g0 g1
  have hm2:ys.length+1 - i≤100000:=by omega
  generalize ys.length+1 - i=m at *
  generalize 4 * i=o at *
  have hm1:0<m:=by omega
  have hm3:1≤m:=by omega
  have hm4:1≤c':=by omega
  have hm5:¬ c'=1:=by omega
  go_enter Tryz.func146,Tryz.ntmps146
  go_wp2
  refine bodyPost_ret (v:=.agg #[.int .i64 ((tk ys len i).k:Nat),.string (tk ys len i).t,.int .i64 ((tk ys len i).v:Nat),.int .i64 ((tk ys len i).a:Nat)]) (by simp [results,Tryz.results146,go_sem]) rfl ?_
  have hC:=(((Chg.refl (fun k=>k=bp) w).setCell (p:=⟨bp,0,none⟩) (.inl rfl) (.slice (some ⟨bw,o+4,none⟩) (m - 1) (c' - 1))).alloc (.cells #[.int .i64 ((tk ys len i).k:Nat),.string (tk ys len i).t,.int .i64 ((tk ys len i).v:Nat),.int .i64 ((tk ys len i).a:Nat)] 151)).alloc (.cells #[.int .i64 ((tk ys len i).k:Nat),.string (tk ys len i).t,.int .i64 ((tk ys len i).v:Nat),.int .i64 ((tk ys len i).a:Nat)] 151)
  refine ⟨rfl,hC,HP.out _ hC ⟨c' - 1,heap_new _ _ (heap_new _ _ (heap_set HG.out 0 _)),by omega,by omega⟩⟩
theorem faultAt_any (a er:Int) (w:World) :
    Calls Tryz.prog 92 #[.int .i64 a,.int .i64 er] w fun e w'=>e=.returned (.agg #[.int .i64 er,.int .i64 (-1),.int .i64 a])∧w'=w.alloc (.cells #[.int .i64 er,.int .i64 (-1),.int .i64 a] 61):=by
  go_enter Tryz.func92,Tryz.ntmps92
  go_wp2
  exact bodyPost_ret (v:=.agg #[.int .i64 er,.int .i64 (-1),.int .i64 a]) (by simp [results,Tryz.results92,go_sem]) rfl ⟨rfl,rfl⟩
theorem fail_ps (h:PS ys len bp bw vp w i) (er:Int) (S:Nat→Prop):Calls Tryz.prog 144 #[.pointer (some ⟨bp,0,none⟩),.int .i64 er] w fun e w'=>e=.panicked (gv er ((tk ys len i).a:Nat))∧Chg S w w':=by
  obtain ⟨c,h0,hf,hc,hc2,h1,h2,h3,h4⟩:=h.raw
  have hle:=h.le
  have hm:0<ys.length+1 - i:=by omega
  clear h hf hc hc2 h1 h2 h3
  generalize ys.length+1 - i=m at *
  generalize 4 * i=o at *
  generalize (((tk ys len i).a:Nat):Int)=a at *
  go_enter Tryz.func144,Tryz.ntmps144
  go_wp2_with (go_at_call 92;refine (faultAt_any _ _ _).mono ?_;rintro e w' ⟨rfl,rfl⟩)
  exact ⟨rfl,rfl,(Chg.refl S w).alloc _⟩
theorem skip_yes (h:PS ys len bp bw vp w i) (hi:i<ys.length) (s:ByteArray) (ht:((tk ys len i).t.toList == s.toList)=true) :
    Calls Tryz.prog 95 #[.pointer (some ⟨bp,0,none⟩),.string s] w fun e w'=>e=.returned (.bool true)∧Chg (fun k=>k=bp) w w'∧PS ys len bp bw vp w' (i+1):=by
  have h1:=is_ps h s
  rw [ht] at h1
  clear ht
  go_enter Tryz.func95,Tryz.ntmps95
  go_wp2_with (go_at_call 145;refine h1.mono ?_;rintro e w' ⟨rfl,rfl⟩)
  go_at_call 146
  refine (take_ps h hi).mono ?_
  rintro e w' ⟨rfl,hc,hp⟩
  go_wp2
  go_ret
  exact ⟨rfl,hc,hp⟩
theorem skip_no (h:PS ys len bp bw vp w i) (s:ByteArray) (ht:((tk ys len i).t.toList == s.toList)=false) :
    Calls Tryz.prog 95 #[.pointer (some ⟨bp,0,none⟩),.string s] w fun e w'=>e=.returned (.bool false)∧w=w':=by
  have h1:=is_ps h s
  rw [ht] at h1
  clear ht
  go_enter Tryz.func95,Tryz.ntmps95
  go_wp2_with (go_at_call 145;refine h1.mono ?_;rintro e w' ⟨rfl,rfl⟩)
  go_ret
  exact ⟨rfl,rfl⟩
theorem want_yes (h:PS ys len bp bw vp w i) (hi:i<ys.length) (s:ByteArray) (ht:((tk ys len i).t.toList == s.toList)=true) :
    Calls Tryz.prog 149 #[.pointer (some ⟨bp,0,none⟩),.string s] w fun e w'=>e=.returned (.tuple #[])∧Chg (fun k=>k=bp) w w'∧PS ys len bp bw vp w' (i+1):=by
  have h1:=skip_yes h hi s ht
  clear ht
  go_enter Tryz.func149,Tryz.ntmps149
  go_wp2_with (go_at_call 95;refine h1.mono ?_;rintro e w' ⟨rfl,hc,hp⟩)
  go_end0
  exact ⟨rfl,hc,hp⟩
theorem want_no (h:PS ys len bp bw vp w i) (s:ByteArray) (ht:((tk ys len i).t.toList == s.toList)=false) (S:Nat→Prop) :
    Calls Tryz.prog 149 #[.pointer (some ⟨bp,0,none⟩),.string s] w fun e w'=>e=.panicked (gv 50 ((tk ys len i).a:Nat))∧Chg S w w':=by
  have h1:=skip_no h s ht
  clear ht
  go_enter Tryz.func149,Tryz.ntmps149
  go_wp2_with (go_at_call 95;refine h1.mono ?_;rintro e w' ⟨rfl,rfl⟩)
  go_at_call 144
  refine (fail_ps h 50 S).mono ?_
  rintro e w' ⟨rfl,hc⟩
  go_wp2
  exact ⟨rfl,rfl,hc⟩
theorem PS.alloc (h:PS ys len bp bw vp w i) (o:Obj):PS ys len bp bw vp (w.alloc o) i:=h.chg (S:=fun _=>False) ((Chg.refl _ _).alloc o) id id
theorem chg_set4 {S:Nat→Prop} {a w:World} (h:Chg S a w) {g:Nat} (hg:S g ∨ a.heap.size≤g) (x0 x1 x2 x3:Value) :
    Chg S a ((((w.setCell ⟨g,0,none⟩ x0).setCell ⟨g,1,none⟩ x1).setCell ⟨g,2,none⟩ x2).setCell ⟨g,3,none⟩ x3) :=
  (((h.setCell (p:=⟨g,0,none⟩) hg _).setCell (p:=⟨g,1,none⟩) hg _).setCell (p:=⟨g,2,none⟩) hg _).setCell (p:=⟨g,3,none⟩) hg _
theorem wantKind_yes (h:PS ys len bp bw vp w i) (hi:i<ys.length) (k:Int) (ht:(((tk ys len i).k:Int) == k)=true) :
    Calls Tryz.prog 151 #[.pointer (some ⟨bp,0,none⟩),.int .i64 k] w fun e w'=>e=.returned (.agg #[.int .i64 ((tk ys len i).k:Nat),.string (tk ys len i).t,.int .i64 ((tk ys len i).v:Nat),.int .i64 ((tk ys len i).a:Nat)])∧Chg (fun k=>k=bp) w w'∧PS ys len bp bw vp w' (i+1):=by
  obtain ⟨hlt,hlb⟩:=h.lt
  have h':=h.alloc (.cells #[.int .i64 0,.string ⟨#[]⟩,.int .i64 0,.int .i64 0] 151)
  have h1:=isKind_ps h' k
  rw [ht] at h1
  clear ht
  go_enter Tryz.func151,Tryz.ntmps151
  go_wp2_with (go_at_call 184;refine h1.mono ?_;rintro e w' ⟨rfl,rfl⟩)
  go_at_call 146
  refine (take_ps h' hi).mono ?_
  rintro e w' ⟨rfl,hc,hp⟩
  have hT:TokB w' w.heap.size 0 ⟨#[]⟩ 0 0:=hc.heap (World.alloc_heap_new w _) (by omega)
  obtain ⟨k0,k1,k2,k3,f0,f1,f2,f3⟩:=hT.at_
  have hn:w.heap.size ≠ bp:=by omega
  have hC:Chg (fun k=>k=bp) w w':=((Chg.refl _ w).alloc _).then (hc.mono (by intro i q;exact .inl q))
  have HC:=Lib.hid hC
  have HP:=Lib.hid hp
  clear hc hp hC h1 h'
  go_wp2
  exact bodyPost_ret (v:=.agg #[.int .i64 ((tk ys len i).k:Nat),.string (tk ys len i).t,.int .i64 ((tk ys len i).v:Nat),.int .i64 ((tk ys len i).a:Nat)]) (by simp [results,Tryz.results151,go_sem,k0,k1,k2,k3]) rfl ⟨rfl,chg_set4 HC.out (.inr (Nat.le_refl _)) _ _ _ _,HP.out.chg (chg_set4 (Chg.refl (fun k=>k=w.heap.size) _) (.inl rfl) _ _ _ _) (by omega) (by omega)⟩
theorem wantKind_no (h:PS ys len bp bw vp w i) (k:Int) (ht:(((tk ys len i).k:Int) == k)=false) (S:Nat→Prop) :
    Calls Tryz.prog 151 #[.pointer (some ⟨bp,0,none⟩),.int .i64 k] w fun e w'=>e=.panicked (gv 50 ((tk ys len i).a:Nat))∧Chg S w w':=by
  have h':=h.alloc (.cells #[.int .i64 0,.string ⟨#[]⟩,.int .i64 0,.int .i64 0] 151)
  have h1:=isKind_ps h' k
  rw [ht] at h1
  clear ht
  go_enter Tryz.func151,Tryz.ntmps151
  go_wp2_with (go_at_call 184;refine h1.mono ?_;rintro e w' ⟨rfl,rfl⟩)
  go_at_call 144
  refine (fail_ps h' 50 S).mono ?_
  rintro e w' ⟨rfl,hc⟩
  go_wp2
  exact ⟨rfl,rfl,((Chg.refl S w).alloc _).then (hc.mono (fun i q=>.inl q))⟩
theorem tok_text (k v a:Int) (t:ByteArray) (w:World):(Instr.field 151 (.agg #[.int .i64 k,.string t,.int .i64 v,.int .i64 a]) 1).run Tryz.prog w=.ok (.string t) w:=by kernel_rfl
theorem tok_value (k v a:Int) (t:ByteArray) (w:World):(Instr.field 151 (.agg #[.int .i64 k,.string t,.int .i64 v,.int .i64 a]) 2).run Tryz.prog w=.ok (.int .i64 v) w:=by kernel_rfl
attribute [local go_sem] tok_text tok_value
set_option maxRecDepth 100000 in
theorem name_ps (h:PS ys len bp bw vp w i) :
    Calls Tryz.prog 150 #[.pointer (some ⟨bp,0,none⟩)] w (Ret ys len (fun k=>k=bp) w (Syn.name (Tk ys) i) fun x j e w'=>e=.returned (.string (sb x))∧PS ys len bp bw vp w' j):=by
  by_cases hn:Syn.named (Tk ys) i=true
  · have hi:i<ys.length:=by
      rcases Nat.lt_or_ge i ys.length with q | q
      · exact q
      · rw [Syn.named,Tk_none q] at hn;cases hn
    have hr:Syn.name (Tk ys) i=.ok (bl (tk ys len i).t,i+1):=by
      rw [Syn.named,Tk_some (len:=len) hi] at hn
      unfold Syn.name
      rw [Tk_some (len:=len) hi]
      exact if_pos (by simpa using hn)
    rw [hr]
    have h1:=wantKind_yes h hi 1 (by rw [named_kind];exact hn)
    clear hr hn
    go_enter Tryz.func150,Tryz.ntmps150
    go_wp2_with (go_at_call 151;refine h1.mono ?_;rintro e w' ⟨rfl,hc,hp⟩)
    go_ret
    exact ⟨hc,by rw [sb_bl];rfl,hp⟩
  · have hr:Syn.name (Tk ys) i=.error (50,i):=by
      unfold Syn.named at hn
      unfold Syn.name
      split
      · rename_i k hk
        rw [hk] at hn
        simp only [beq_iff_eq] at hn
        rw [if_neg hn]
      · rfl
    rw [hr]
    have h1:=wantKind_no h 1 (by rw [named_kind];simpa using hn) (fun k=>k=bp)
    clear hr hn
    go_enter Tryz.func150,Tryz.ntmps150
    go_wp2_with (go_at_call 151;refine h1.mono ?_;rintro e w' ⟨rfl,hc⟩)
    exact ⟨rfl,hc,rfl⟩
end
end Go.Proofs.YtpcniebkabkikaaGreatDoor
namespace Go.Proofs.YtpcniebkabkikaaGreatDoor
open Go Go.RowKit
theorem exit_then {K:Act→World→Prop} {Q:Exit→Act→World→Prop} {n:Nat} {a:Act} {w:World} (h:Q (.exit n) a w):Exit.then K Q (.exit n) a w:=h
theorem exit_ne {Q:Exit→Act→World→Prop} {m n:Nat} {a:Act} {w:World} (hn:¬ n=m) (h:Q (.exit n) a w):Exit.inBlock m Q (.exit n) a w:=by
  show (if n=m then Q .normal a w else Q (.exit n) a w)
  rw [if_neg hn];exact h
theorem exit_eq {Q:Exit→Act→World→Prop} {n:Nat} {a:Act} {w:World} (h:Q .normal a w):Exit.inBlock n Q (.exit n) a w:=by
  show (if n=n then Q .normal a w else Q (.exit n) a w)
  rw [if_pos rfl];exact h
def signL:Nat→List UInt8
  | 1=>[43]
  | 2=>[45]
  | 3=>[42]
  | 4=>[47]
  | 5=>[37]
  | 6=>[38]
  | 7=>[124]
  | 8=>[94]
  | 9=>[60,60]
  | 10=>[62,62]
  | 11=>[61,61]
  | 12=>[33,61]
  | 13=>[60]
  | 14=>[60,61]
  | 15=>[45]
  | 16=>[33]
  | 17=>[126]
  | _=>[]
def signV (op:Int):ByteArray:=⟨(if 1≤op∧op≤17 then signL op.toNat else []).toArray⟩
def arV (op:Int):Int:=if 1≤op∧op≤14 then 2 else if 15≤op∧op≤17 then 1 else 0
set_option maxRecDepth 100000 in
theorem sign_1 (w:World):Calls Tryz.prog 177 #[.int .i64 1] w fun e w'=>e=.returned (.string (⟨#[43]⟩:ByteArray))∧w=w':=by
  go_enter Tryz.func177,Tryz.ntmps177
  go_upto_region 2 with (fail)
  iterate 10 go_step
  refine wp_cond_split rfl (fun h=>?_) (fun h=>absurd h (by decide))
  apply wp_exit
  repeat (first | refine exit_then ?_ | refine exit_ne (by decide) ?_)
  refine exit_eq ?_
  go_wp2
  go_ret
  exact ⟨rfl,rfl⟩
set_option maxRecDepth 100000 in
theorem sign_2 (w:World):Calls Tryz.prog 177 #[.int .i64 2] w fun e w'=>e=.returned (.string (⟨#[45]⟩:ByteArray))∧w=w':=by
  go_enter Tryz.func177,Tryz.ntmps177
  go_upto_region 3 with (fail)
  iterate 10 go_step
  refine wp_cond_split rfl (fun h=>?_) (fun h=>absurd h (by decide))
  apply wp_exit
  repeat (first | refine exit_then ?_ | refine exit_ne (by decide) ?_)
  refine exit_eq ?_
  go_wp2
  go_ret
  exact ⟨rfl,rfl⟩
set_option maxRecDepth 100000 in
theorem sign_3 (w:World):Calls Tryz.prog 177 #[.int .i64 3] w fun e w'=>e=.returned (.string (⟨#[42]⟩:ByteArray))∧w=w':=by
  go_enter Tryz.func177,Tryz.ntmps177
  go_upto_region 5 with (fail)
  iterate 10 go_step
  refine wp_cond_split rfl (fun h=>?_) (fun h=>absurd h (by decide))
  apply wp_exit
  repeat (first | refine exit_then ?_ | refine exit_ne (by decide) ?_)
  refine exit_eq ?_
  go_wp2
  go_ret
  exact ⟨rfl,rfl⟩
set_option maxRecDepth 100000 in
theorem sign_4 (w:World):Calls Tryz.prog 177 #[.int .i64 4] w fun e w'=>e=.returned (.string (⟨#[47]⟩:ByteArray))∧w=w':=by
  go_enter Tryz.func177,Tryz.ntmps177
  go_upto_region 6 with (fail)
  iterate 10 go_step
  refine wp_cond_split rfl (fun h=>?_) (fun h=>absurd h (by decide))
  apply wp_exit
  repeat (first | refine exit_then ?_ | refine exit_ne (by decide) ?_)
  refine exit_eq ?_
  go_wp2
  go_ret
  exact ⟨rfl,rfl⟩
set_option maxRecDepth 100000 in
theorem sign_5 (w:World):Calls Tryz.prog 177 #[.int .i64 5] w fun e w'=>e=.returned (.string (⟨#[37]⟩:ByteArray))∧w=w':=by
  go_enter Tryz.func177,Tryz.ntmps177
  go_upto_region 7 with (fail)
  iterate 10 go_step
  refine wp_cond_split rfl (fun h=>?_) (fun h=>absurd h (by decide))
  apply wp_exit
  repeat (first | refine exit_then ?_ | refine exit_ne (by decide) ?_)
  refine exit_eq ?_
  go_wp2
  go_ret
  exact ⟨rfl,rfl⟩
set_option maxRecDepth 100000 in
theorem sign_6 (w:World):Calls Tryz.prog 177 #[.int .i64 6] w fun e w'=>e=.returned (.string (⟨#[38]⟩:ByteArray))∧w=w':=by
  go_enter Tryz.func177,Tryz.ntmps177
  go_upto_region 8 with (fail)
  iterate 10 go_step
  refine wp_cond_split rfl (fun h=>?_) (fun h=>absurd h (by decide))
  apply wp_exit
  repeat (first | refine exit_then ?_ | refine exit_ne (by decide) ?_)
  refine exit_eq ?_
  go_wp2
  go_ret
  exact ⟨rfl,rfl⟩
set_option maxRecDepth 100000 in
theorem sign_7 (w:World):Calls Tryz.prog 177 #[.int .i64 7] w fun e w'=>e=.returned (.string (⟨#[124]⟩:ByteArray))∧w=w':=by
  go_enter Tryz.func177,Tryz.ntmps177
  go_upto_region 9 with (fail)
  iterate 10 go_step
  refine wp_cond_split rfl (fun h=>?_) (fun h=>absurd h (by decide))
  apply wp_exit
  repeat (first | refine exit_then ?_ | refine exit_ne (by decide) ?_)
  refine exit_eq ?_
  go_wp2
  go_ret
  exact ⟨rfl,rfl⟩
set_option maxRecDepth 100000 in
theorem sign_8 (w:World):Calls Tryz.prog 177 #[.int .i64 8] w fun e w'=>e=.returned (.string (⟨#[94]⟩:ByteArray))∧w=w':=by
  go_enter Tryz.func177,Tryz.ntmps177
  go_upto_region 10 with (fail)
  iterate 10 go_step
  refine wp_cond_split rfl (fun h=>?_) (fun h=>absurd h (by decide))
  apply wp_exit
  repeat (first | refine exit_then ?_ | refine exit_ne (by decide) ?_)
  refine exit_eq ?_
  go_wp2
  go_ret
  exact ⟨rfl,rfl⟩
set_option maxRecDepth 100000 in
theorem sign_9 (w:World):Calls Tryz.prog 177 #[.int .i64 9] w fun e w'=>e=.returned (.string (⟨#[60,60]⟩:ByteArray))∧w=w':=by
  go_enter Tryz.func177,Tryz.ntmps177
  go_upto_region 11 with (fail)
  iterate 10 go_step
  refine wp_cond_split rfl (fun h=>?_) (fun h=>absurd h (by decide))
  apply wp_exit
  repeat (first | refine exit_then ?_ | refine exit_ne (by decide) ?_)
  refine exit_eq ?_
  go_wp2
  go_ret
  exact ⟨rfl,rfl⟩
set_option maxRecDepth 100000 in
theorem sign_10 (w:World):Calls Tryz.prog 177 #[.int .i64 10] w fun e w'=>e=.returned (.string (⟨#[62,62]⟩:ByteArray))∧w=w':=by
  go_enter Tryz.func177,Tryz.ntmps177
  go_upto_region 12 with (fail)
  iterate 10 go_step
  refine wp_cond_split rfl (fun h=>?_) (fun h=>absurd h (by decide))
  apply wp_exit
  repeat (first | refine exit_then ?_ | refine exit_ne (by decide) ?_)
  refine exit_eq ?_
  go_wp2
  go_ret
  exact ⟨rfl,rfl⟩
set_option maxRecDepth 100000 in
theorem sign_11 (w:World):Calls Tryz.prog 177 #[.int .i64 11] w fun e w'=>e=.returned (.string (⟨#[61,61]⟩:ByteArray))∧w=w':=by
  go_enter Tryz.func177,Tryz.ntmps177
  go_upto_region 13 with (fail)
  iterate 10 go_step
  refine wp_cond_split rfl (fun h=>?_) (fun h=>absurd h (by decide))
  apply wp_exit
  repeat (first | refine exit_then ?_ | refine exit_ne (by decide) ?_)
  refine exit_eq ?_
  go_wp2
  go_ret
  exact ⟨rfl,rfl⟩
set_option maxRecDepth 100000 in
theorem sign_12 (w:World):Calls Tryz.prog 177 #[.int .i64 12] w fun e w'=>e=.returned (.string (⟨#[33,61]⟩:ByteArray))∧w=w':=by
  go_enter Tryz.func177,Tryz.ntmps177
  go_upto_region 14 with (fail)
  iterate 10 go_step
  refine wp_cond_split rfl (fun h=>?_) (fun h=>absurd h (by decide))
  apply wp_exit
  repeat (first | refine exit_then ?_ | refine exit_ne (by decide) ?_)
  refine exit_eq ?_
  go_wp2
  go_ret
  exact ⟨rfl,rfl⟩
set_option maxRecDepth 100000 in
theorem sign_13 (w:World):Calls Tryz.prog 177 #[.int .i64 13] w fun e w'=>e=.returned (.string (⟨#[60]⟩:ByteArray))∧w=w':=by
  go_enter Tryz.func177,Tryz.ntmps177
  go_upto_region 15 with (fail)
  iterate 10 go_step
  refine wp_cond_split rfl (fun h=>?_) (fun h=>absurd h (by decide))
  apply wp_exit
  repeat (first | refine exit_then ?_ | refine exit_ne (by decide) ?_)
  refine exit_eq ?_
  go_wp2
  go_ret
  exact ⟨rfl,rfl⟩
set_option maxRecDepth 100000 in
theorem sign_14 (w:World):Calls Tryz.prog 177 #[.int .i64 14] w fun e w'=>e=.returned (.string (⟨#[60,61]⟩:ByteArray))∧w=w':=by
  go_enter Tryz.func177,Tryz.ntmps177
  go_upto_region 16 with (fail)
  iterate 10 go_step
  refine wp_cond_split rfl (fun h=>?_) (fun h=>absurd h (by decide))
  apply wp_exit
  repeat (first | refine exit_then ?_ | refine exit_ne (by decide) ?_)
  refine exit_eq ?_
  go_wp2
  go_ret
  exact ⟨rfl,rfl⟩
set_option maxRecDepth 100000 in
theorem sign_15 (w:World):Calls Tryz.prog 177 #[.int .i64 15] w fun e w'=>e=.returned (.string (⟨#[45]⟩:ByteArray))∧w=w':=by
  go_enter Tryz.func177,Tryz.ntmps177
  go_upto_region 4 with (fail)
  iterate 10 go_step
  refine wp_cond_split rfl (fun h=>?_) (fun h=>absurd h (by decide))
  apply wp_exit
  repeat (first | refine exit_then ?_ | refine exit_ne (by decide) ?_)
  refine exit_eq ?_
  go_wp2
  go_ret
  exact ⟨rfl,rfl⟩
set_option maxRecDepth 100000 in
theorem sign_16 (w:World):Calls Tryz.prog 177 #[.int .i64 16] w fun e w'=>e=.returned (.string (⟨#[33]⟩:ByteArray))∧w=w':=by
  go_enter Tryz.func177,Tryz.ntmps177
  go_upto_region 17 with (fail)
  iterate 10 go_step
  refine wp_cond_split rfl (fun h=>?_) (fun h=>absurd h (by decide))
  apply wp_exit
  repeat (first | refine exit_then ?_ | refine exit_ne (by decide) ?_)
  refine exit_eq ?_
  go_wp2
  go_ret
  exact ⟨rfl,rfl⟩
set_option maxRecDepth 100000 in
theorem sign_17 (w:World):Calls Tryz.prog 177 #[.int .i64 17] w fun e w'=>e=.returned (.string (⟨#[126]⟩:ByteArray))∧w=w':=by
  go_enter Tryz.func177,Tryz.ntmps177
  go_upto_region 18 with (fail)
  iterate 10 go_step
  refine wp_cond_split rfl (fun h=>?_) (fun h=>absurd h (by decide))
  apply wp_exit
  repeat (first | refine exit_then ?_ | refine exit_ne (by decide) ?_)
  refine exit_eq ?_
  go_wp2
  go_ret
  exact ⟨rfl,rfl⟩
set_option maxRecDepth 100000 in
theorem sign_none (op:Int) (hop:op<1 ∨ 17<op) (w:World):Calls Tryz.prog 177 #[.int .i64 op] w fun e w'=>e=.returned (.string (⟨#[]⟩:ByteArray))∧w=w':=by
  have c1:(op == 1)=false:=by simp;omega
  have c2:(op == 2)=false:=by simp;omega
  have c3:(op == 3)=false:=by simp;omega
  have c4:(op == 4)=false:=by simp;omega
  have c5:(op == 5)=false:=by simp;omega
  have c6:(op == 6)=false:=by simp;omega
  have c7:(op == 7)=false:=by simp;omega
  have c8:(op == 8)=false:=by simp;omega
  have c9:(op == 9)=false:=by simp;omega
  have c10:(op == 10)=false:=by simp;omega
  have c11:(op == 11)=false:=by simp;omega
  have c12:(op == 12)=false:=by simp;omega
  have c13:(op == 13)=false:=by simp;omega
  have c14:(op == 14)=false:=by simp;omega
  have c15:(op == 15)=false:=by simp;omega
  have c16:(op == 16)=false:=by simp;omega
  have c17:(op == 17)=false:=by simp;omega
  clear hop
  go_enter Tryz.func177,Tryz.ntmps177
  go_upto_region 18 with (fail)
  iterate 10 go_step
  refine wp_cond_split rfl (fun h=>absurd h (by decide)) (fun h=>?_)
  go_step
  go_step
  go_step
  apply wp_exit
  repeat (first | refine exit_then ?_ | refine exit_ne (by decide) ?_)
  refine exit_eq ?_
  go_wp2
  go_ret
  exact ⟨rfl,rfl⟩
theorem sign_cases (op:Int):op=1 ∨ op=2 ∨ op=3 ∨ op=4 ∨ op=5 ∨ op=6 ∨ op=7 ∨ op=8 ∨ op=9 ∨ op=10 ∨ op=11 ∨ op=12 ∨ op=13 ∨ op=14 ∨ op=15 ∨ op=16 ∨ op=17 ∨ (op<1 ∨ 17<op):=by omega
theorem sign_any (op:Int) (w:World):Calls Tryz.prog 177 #[.int .i64 op] w fun e w'=>e=.returned (.string (signV op))∧w=w':=by
  rcases sign_cases op with rfl | rfl | rfl | rfl | rfl | rfl | rfl | rfl | rfl | rfl | rfl | rfl | rfl | rfl | rfl | rfl | rfl | hop
  · exact sign_1 w
  · exact sign_2 w
  · exact sign_3 w
  · exact sign_4 w
  · exact sign_5 w
  · exact sign_6 w
  · exact sign_7 w
  · exact sign_8 w
  · exact sign_9 w
  · exact sign_10 w
  · exact sign_11 w
  · exact sign_12 w
  · exact sign_13 w
  · exact sign_14 w
  · exact sign_15 w
  · exact sign_16 w
  · exact sign_17 w
  · rw [show signV op=(⟨#[]⟩:ByteArray) from by unfold signV;rw [if_neg (by omega)]];exact sign_none op hop w
set_option maxRecDepth 100000 in
theorem arity_ops (op:Int) (w:World):Calls Tryz.prog 136 #[.int .i64 op] w fun e w'=>e=.returned (.int .i64 (arV op))∧w=w':=by
  unfold arV
  by_cases h1:1≤op∧op≤14
  · rw [if_pos h1]
    obtain ⟨h1,h2⟩:=h1
    go_enter Tryz.func136,Tryz.ntmps136
    go_wp2
    go_ret
    exact ⟨rfl,rfl⟩
  · rw [if_neg h1]
    by_cases h2:15≤op∧op≤17
    · rw [if_pos h2]
      obtain ⟨h2,h3⟩:=h2
      have h4:¬ op≤14:=by omega
      clear h1
      go_enter Tryz.func136,Tryz.ntmps136
      go_wp2
      go_ret
      exact ⟨rfl,rfl⟩
    · rw [if_neg h2]
      rcases (show op<1 ∨ 17<op by omega) with h | h
      all_goals
        clear h1 h2
        go_enter Tryz.func136,Tryz.ntmps136
        go_wp2
        go_ret
        exact ⟨rfl,rfl⟩
def hitS (s:ByteArray) (ar:Int) (k:Nat):Bool:=((signV k).toList == s.toList) && (arV k == ar)
def First (s:ByteArray) (ar:Int) (n:Nat):Prop:=1≤n∧n≤18∧(∀ j,1≤j→j<n→hitS s ar j=false)∧(n=18 ∨ hitS s ar n=true)
def bsV (n:Nat):Value:=if n=18 then .tuple #[.int .i64 0,.bool false] else .tuple #[.int .i64 n,.bool true]
theorem first_from (s:ByteArray) (ar:Int):∀ (d n:Nat),n+d=18→1≤n→(∀ j,1≤j→j<n→hitS s ar j=false)→∃ m,First s ar m:=by
  intro d
  induction d with
  | zero=>intro n hn h1 h;exact ⟨n,h1,by omega,h,.inl (by omega)⟩
  | succ d ih =>
    intro n hn h1 h
    cases hh:hitS s ar n with
    | true=>exact ⟨n,h1,by omega,h,.inr hh⟩
    | false=>exact ih (n+1) (by omega) (by omega) (fun j hj hjn=>if e:j=n then by rw [e];exact hh else h j hj (by omega))
theorem first_any (s:ByteArray) (ar:Int):∃ m,First s ar m:=first_from s ar 17 1 rfl (Nat.le_refl _) (fun j h1 h2=>by omega)
theorem miss (s:ByteArray) (ar:Int) (k:Nat) (h:hitS s ar k=false):((signV k).toList == s.toList)=false ∨ (((signV k).toList == s.toList)=true∧(arV k == ar)=false):=by
  unfold hitS at h
  rw [Bool.and_eq_false_iff] at h
  cases h1:((signV k).toList == s.toList) with
  | false=>exact .inl rfl
  | true=>rw [h1] at h;exact .inr ⟨rfl,h.resolve_left (by simp)⟩
theorem hitS_both (s:ByteArray) (ar:Int) (k:Nat) (h:hitS s ar k=true):((signV k).toList == s.toList)=true∧(arV k == ar)=true:=by
  unfold hitS at h
  simpa using h
set_option maxRecDepth 100000 in
set_option maxHeartbeats 1000000 in
theorem bysign_ops (s:ByteArray) (ar:Int) (n:Nat) (hn:First s ar n) (w:World) :
    Calls Tryz.prog 193 #[.string s,.int .i64 ar] w fun e w'=>e=.returned (bsV n)∧w=w':=by
  obtain ⟨h1,h18,hno,hyes⟩:=hn
  have HNO:=Lib.hid hno
  have HY:=Lib.hid hyes
  clear hno hyes
  go_enter Tryz.func193,Tryz.ntmps193
  go_wp2
  go_loop [6] (fun x=>∃ k:Nat,1≤k∧k≤n∧x=.int .i64 k) (fun x=>18 - (intOf x).toNat)
  case atStart=>exact ⟨1,Nat.le_refl _,h1,rfl⟩
  case round =>
    obtain ⟨k,hk,hkn,rfl⟩:=hrel
    have hs:=sign_any k w
    have ha:=arity_ops k w
    by_cases hlt:k<n
    · have hm:=HNO.out k hk hlt
      have hk17:(k:Int)≤17:=by omega
      rcases miss s ar k hm with hm1 | ⟨hm1,hm2⟩
      · clear hm
        go_wp2_with (first | (go_at_call 177;refine hs.mono ?_;rintro e w' ⟨rfl,rfl⟩) | (go_at_call 136;refine ha.mono ?_;rintro e w' ⟨rfl,rfl⟩))
        exact ⟨⟨k+1,by omega,by omega,by go_num⟩,by simp [intOf];omega⟩
      · clear hm
        go_wp2_with (first | (go_at_call 177;refine hs.mono ?_;rintro e w' ⟨rfl,rfl⟩) | (go_at_call 136;refine ha.mono ?_;rintro e w' ⟨rfl,rfl⟩))
        exact ⟨⟨k+1,by omega,by omega,by go_num⟩,by simp [intOf];omega⟩
    · obtain rfl:k=n:=by omega
      by_cases h:k=18
      · subst h
        clear HNO HY
        go_wp2
        go_ret2
        exact ⟨rfl,rfl⟩
      · obtain ⟨hm1,hm2⟩:=hitS_both s ar k (HY.out.resolve_left h)
        have hk17:(k:Int)≤17:=by omega
        have hV:=Lib.hid (show bsV k=.tuple #[.int .i64 k,.bool true] from if_neg h)
        clear HNO HY
        go_wp2_with (first | (go_at_call 177;refine hs.mono ?_;rintro e w' ⟨rfl,rfl⟩) | (go_at_call 136;refine ha.mono ?_;rintro e w' ⟨rfl,rfl⟩))
        go_ret2
        exact ⟨by rw [hV.out];rfl,rfl⟩
end Go.Proofs.YtpcniebkabkikaaGreatDoor
namespace Go.Proofs.Syn
def Cnt (p:Nat→R (List Tm)):Prop:=∀ i l j,p i=.ok (l,j)→l.length+i≤j
section
variable {T:Nat→Option K} {F:Nat}
theorem loop_cnt {p:Nat→R (List Tm)} (hp:Cnt p) (ms:List (List Nat × Nat)):∀ (f:Nat) (l:List Tm) (i:Nat) (l':List Tm) (j:Nat),loopF T p ms f l i=.ok (l',j)→l'.length+i≤l.length+j
  | 0,_,_,_,_,h=>by cases h
  | f+1,l,i,l',j,h=>by
    rw [loopF] at h
    split at h
    · injection h with h;injection h with h1 h2
      subst h1;subst h2;exact Nat.le_refl _
    · obtain ⟨r,i2,h1,h2⟩:=R.on_ok h
      have a:=hp _ _ _ h1
      have b:=loop_cnt hp ms f _ i2 l' j h2
      simp only [List.length_append,List.length_singleton] at b
      omega
theorem tower_cnt {u:Nat→R (List Tm)} (hu:Cnt u):∀ k,Cnt (tower T F u k)
  | 0=>fun i l j h=>hu i l j h
  | k+1=>fun i l j h=>by
    rw [tower] at h
    obtain ⟨l1,i1,h1,h2⟩:=R.on_ok h
    have a:=tower_cnt hu k _ _ _ h1
    have b:=loop_cnt (tower_cnt hu k) _ _ _ _ _ _ h2
    omega
theorem unOps_cnt:∀ (f i:Nat) (l:List Nat) (j:Nat),unOps T f i=.ok (l,j)→l.length+i=j
  | 0,_,_,_,h=>by cases h
  | f+1,i,l,j,h=>by
    rw [unOps] at h
    split at h
    · injection h with h;injection h with h1 h2
      subst h1;subst h2;simp
    · obtain ⟨l1,i1,h1,h2⟩:=R.on_ok h
      injection h2 with h2;injection h2 with h3 h4
      subst h3;subst h4
      have:=unOps_cnt f _ _ _ h1
      simp only [List.length_cons];omega
theorem brack_cnt {e:Option (Nat→R (List Tm))} (he:∀ p,e=some p→Cnt p) {g:List Tm→List Tm} (hg:∀ l,(g l).length≤l.length+1) {s:List Nat} {i j:Nat} {l:List Tm} (h:brack T e g s i=.ok (l,j)):l.length+i≤j:=by
  unfold brack at h
  split at h
  · cases h
  · obtain ⟨l1,i1,h1,h⟩:=R.on_ok h
    obtain ⟨_,i2,h2,h⟩:=R.on_ok h
    injection h with h;injection h with h3 h4
    subst h3;subst h4
    have a:=he _ rfl _ _ _ h1
    have b:=(want_ok h2).2
    have:=hg l1
    omega
theorem atom_cnt {e:Option (Nat→R (List Tm))} (he:∀ p,e=some p→Cnt p):Cnt (atom T e):=by
  intro i l j h
  unfold atom at h
  split at h
  · cases h
  · split at h
    · injection h with h;injection h with h3 h4
      subst h3;subst h4;simp;omega
    · split at h
      · exact brack_cnt he (fun l=>Nat.le_succ _) h
      · unfold atomN at h
        obtain ⟨s,i1,h1,h⟩:=R.on_ok h
        have a:=(name_ok h1).2.1
        split at h
        · have:=brack_cnt he (g:=fun l=>l++[⟨3,0,s⟩]) (fun l=>by simp) h
          omega
        · injection h with h;injection h with h3 h4
          subst h3;subst h4;simp;omega
theorem unary_cnt {e:Option (Nat→R (List Tm))} (he:∀ p,e=some p→Cnt p):Cnt (unary T F e):=by
  intro i l j h
  rw [unary_atom] at h
  obtain ⟨ops,i1,h1,h⟩:=R.on_ok h
  obtain ⟨l1,i2,h2,h⟩:=R.on_ok h
  injection h with h;injection h with h3 h4
  subst h3;subst h4
  have a:=unOps_cnt _ _ _ _ h1
  have b:=atom_cnt he _ _ _ h2
  simp only [List.length_append,List.length_map,List.length_reverse]
  omega
theorem expr_cnt:∀ d,Cnt (exprD T F d)
  | 0=>tower_cnt (unary_cnt (fun p h=>by cases h)) 6
  | d+1=>tower_cnt (unary_cnt (fun p h=>by cases h;exact expr_cnt d)) 6
end
theorem Fit.pos {α:Type} {n:Nat} {r:R α} {x:α} {j:Nat} (h:Fit n r) (e:r=.ok (x,j)):j≤n:=by rw [e] at h;exact h
theorem Fit.no99 {α:Type} {n j:Nat} {r:R α} (h:Fit n r) (e:r=.error (99,j)):False:=by
  rw [e] at h
  rcases h.1 with h | h | h | h <;> cases h
def lvlOf (op:Nat):Nat :=
  if 11≤op∧op≤14 then 0 else if op=7 ∨ op=8 then 1 else if op=6 then 2 else if op=9 ∨ op=10 then 3 else if op=1 ∨ op=2 then 4 else 5
def sgn:Nat→List Nat
  | 1=>[43] | 2=>[45] | 3=>[42] | 4=>[47] | 5=>[37] | 6=>[38] | 7=>[124] | 8=>[94] | 9=>[60,60] | 10=>[62,62] | 11=>[61,61] | 12=>[33,61] | 13=>[60] | 14=>[60,61]
  | 15=>[45] | 16=>[33] | 17=>[126] | _=>[]
theorem find_congr {α:Type} {p q:α→Bool}:∀ {l:List α},(∀ m ∈ l,p m=q m)→l.find? p=l.find? q
  | [],_=>rfl
  | m :: l,h=>by
    rw [List.find?_cons,List.find?_cons,h m (List.mem_cons_self ..),find_congr (fun x hx=>h x (List.mem_cons_of_mem _ hx))]
def opTx (ms:List (List Nat × Nat)) (t:List Nat):Nat:=match ms.find? fun m=>t == m.1 with
  | some m=>m.2
  | none=>0
theorem opTx_sgn (n:Nat) (h1:1≤n) (h2:n≤14) (l:Nat) (hl:l≤5):opTx (marks l) (sgn n)=if lvlOf n=l then n else 0:=by
  have:∀ n:Fin 15,∀ l:Fin 6,1≤n.val→opTx (marks l.val) (sgn n.val)=if lvlOf n.val=l.val then n.val else 0:=by decide
  exact this ⟨n,by omega⟩ ⟨l,by omega⟩ h1
theorem opTx_none (ms:List (List Nat × Nat)) (t:List Nat) (h:∀ m ∈ ms,t ≠ m.1):opTx ms t=0:=by
  unfold opTx
  rw [List.find?_eq_none.2 (fun m hm=>by simpa using h m hm)]
theorem marks_sgn (l:Nat):∀ m ∈ marks l,sgn m.2=m.1∧1≤m.2∧m.2≤14:=by
  have:(marks l).all (fun m=>decide (sgn m.2=m.1∧1≤m.2∧m.2≤14))=true:=by
    unfold marks
    split <;> decide
  intro m hm
  simpa using List.all_eq_true.1 this m hm
def unL:List (List Nat × Nat):=[([45],15),([33],16),([126],17)]
theorem opTx_un (n:Nat) (h1:15≤n) (h2:n≤17):opTx unL (sgn n)=n:=by
  rcases (show n=15 ∨ n=16 ∨ n=17 by omega) with rfl | rfl | rfl <;> decide
end Go.Proofs.Syn
namespace Go.Proofs.YtpcniebkabkikaaGreatDoor
open Go Go.RowKit Go.Proofs.Mm
theorem bl_sign (n:Nat) (h1:1≤n) (h2:n≤17):bl (signV n)=Syn.sgn n:=by
  have:∀ n:Fin 18,1≤n.val→bl (signV n.val)=Syn.sgn n.val:=by decide
  exact this ⟨n,by omega⟩ h1
theorem hitS_iff (t:ByteArray) (ar:Int) (n:Nat) (h1:1≤n) (h2:n≤17):hitS t ar n=true ↔ bl t=Syn.sgn n∧arV n=ar:=by
  unfold hitS
  rw [eq_text,bl_sign n h1 h2,Bool.and_eq_true,beq_iff_eq,beq_iff_eq,eq_comm]
theorem bysign2 (t:ByteArray):∃ n,First t 2 n∧((n=18∧∀ l,Syn.opTx (Syn.marks l) (bl t)=0) ∨ (1≤n∧n≤14∧∀ l,l≤5→Syn.opTx (Syn.marks l) (bl t)=if Syn.lvlOf n=l then n else 0)):=by
  obtain ⟨n,h1,h18,hno,hyes⟩:=first_any t 2
  refine ⟨n,⟨h1,h18,hno,hyes⟩,?_⟩
  by_cases hn:n=18
  · refine .inl ⟨hn,fun l=>Syn.opTx_none _ _ fun m hm e=>?_⟩
    obtain ⟨a,b,c⟩:=Syn.marks_sgn l m hm
    have:=hno m.2 b (by omega)
    have h2:=(hitS_iff t 2 m.2 b (by omega)).2 ⟨by rw [e,a],by unfold arV;rw [if_pos (by omega)]⟩
    rw [this] at h2;cases h2
  · obtain ⟨a,b⟩:=(hitS_iff t 2 n h1 (by omega)).1 (hyes.resolve_left hn)
    have hn14:n≤14:=by
      unfold arV at b
      split at b
      · omega
      · split at b <;> omega
    exact .inr ⟨h1,hn14,fun l hl=>by rw [a];exact Syn.opTx_sgn n h1 hn14 l hl⟩
theorem bysign1 (t:ByteArray):∃ n,First t 1 n∧((n=18∧Syn.opTx Syn.unL (bl t)=0) ∨ (15≤n∧n≤17∧Syn.opTx Syn.unL (bl t)=n)):=by
  obtain ⟨n,h1,h18,hno,hyes⟩:=first_any t 1
  refine ⟨n,⟨h1,h18,hno,hyes⟩,?_⟩
  by_cases hn:n=18
  · refine .inl ⟨hn,Syn.opTx_none _ _ fun m hm e=>?_⟩
    have hm2:Syn.sgn m.2=m.1∧15≤m.2∧m.2≤17:=by
      have:Syn.unL.all (fun m=>decide (Syn.sgn m.2=m.1∧15≤m.2∧m.2≤17))=true:=by decide
      simpa using List.all_eq_true.1 this m hm
    obtain ⟨a,b,c⟩:=hm2
    have:=hno m.2 (by omega) (by omega)
    have h2:=(hitS_iff t 1 m.2 (by omega) c).2 ⟨by rw [e,a],by unfold arV;rw [if_neg (by omega),if_pos (by omega)]⟩
    rw [this] at h2;cases h2
  · obtain ⟨a,b⟩:=(hitS_iff t 1 n h1 (by omega)).1 (hyes.resolve_left hn)
    have hn15:15≤n:=by
      unfold arV at b
      split at b
      · omega
      · split at b <;> omega
    exact .inr ⟨hn15,by omega,by rw [a];exact Syn.opTx_un n hn15 (by omega)⟩
theorem opOf_text {ys:List It} (hw:Ws ys) (len i:Nat) {ms:List (List Nat × Nat)} (hm:∀ m ∈ ms,Mk m.1=true):Syn.opOf (Tk ys) ms i=Syn.opTx ms (bl (tk ys len i).t):=by
  unfold Syn.opOf Syn.opTx
  rw [Syn.find_congr (q:=fun m=>bl (tk ys len i).t == m.1) (fun m hx=>(is_text hw len i (hm m hx)).symm)]
  rfl
theorem mk_marks (l:Nat):∀ m ∈ Syn.marks l,Mk m.1=true:=by
  have:(Syn.marks l).all (fun m=>Mk m.1)=true:=by
    unfold Syn.marks
    split <;> decide
  exact List.all_eq_true.1 this
theorem mk_un:∀ m ∈ Syn.unL,Mk m.1=true:=by decide
set_option maxRecDepth 100000 in
theorem levelOf_any (n:Nat) (h1:1≤n) (h2:n≤14) (w:World):Calls Tryz.prog 194 #[.int .i64 (n:Nat)] w fun e w'=>e=.returned (.int .i64 ((Syn.lvlOf n:Nat):Int))∧w=w':=by
  rcases (show n=1 ∨ n=2 ∨ n=3 ∨ n=4 ∨ n=5 ∨ n=6 ∨ n=7 ∨ n=8 ∨ n=9 ∨ n=10 ∨ n=11 ∨ n=12 ∨ n=13 ∨ n=14 by omega) with rfl | rfl | rfl | rfl | rfl | rfl | rfl | rfl | rfl | rfl | rfl | rfl | rfl | rfl
  all_goals
    clear h1 h2
    go_enter Tryz.func194,Tryz.ntmps194
    go_wp2
    go_ret
    exact ⟨rfl,rfl⟩
section
variable {ys:List It} {len bp bw i:Nat} {vp:Value} {w:World}
set_option maxRecDepth 100000 in
theorem unarySign_no (hw:Ws ys) (h:PS ys len bp bw vp w i) (ho:Syn.opOf (Tk ys) Syn.unL i=0) :
    Calls Tryz.prog 195 #[.pointer (some ⟨bp,0,none⟩)] w fun e w'=>e=.returned (.tuple #[.int .i64 0,.bool false])∧w=w':=by
  obtain ⟨n,hn,hc⟩:=bysign1 (tk ys len i).t
  rw [opOf_text hw len i mk_un] at ho
  have hn18:n=18:=by rcases hc with hc | hc <;> omega
  subst hn18
  have hb:=bysign_ops _ _ _ hn w
  rw [show bsV 18=.tuple #[.int .i64 0,.bool false] from rfl] at hb
  obtain ⟨c,h0,hf,hcc,hc2,h1,h2,h3,h4⟩:=h.raw
  have hle:=h.le
  have hm:0<ys.length+1 - i:=by omega
  clear h hf hcc hc2 h1 h3 h4 hc hn ho
  generalize ys.length+1 - i=m at *
  generalize 4 * i=o at *
  go_enter Tryz.func195,Tryz.ntmps195
  go_wp2_with (go_at_call 193;refine hb.mono ?_;rintro e w' ⟨rfl,rfl⟩)
  go_ret2
  exact ⟨rfl,rfl⟩
set_option maxRecDepth 100000 in
theorem unarySign_yes (hw:Ws ys) (h:PS ys len bp bw vp w i) (n:Nat) (hn0:n ≠ 0) (ho:Syn.opOf (Tk ys) Syn.unL i=n) (hi:i<ys.length) :
    Calls Tryz.prog 195 #[.pointer (some ⟨bp,0,none⟩)] w fun e w'=>e=.returned (.tuple #[.int .i64 (n:Nat),.bool true])∧Chg (fun k=>k=bp) w w'∧PS ys len bp bw vp w' (i+1):=by
  obtain ⟨n',hn,hc⟩:=bysign1 (tk ys len i).t
  rw [opOf_text hw len i mk_un] at ho
  have hn18:n'=n∧n≤17:=by rcases hc with hc | hc <;> omega
  obtain ⟨rfl,hn17⟩:=hn18
  have hb:=bysign_ops _ _ _ hn w
  rw [show bsV n'=.tuple #[.int .i64 (n':Nat),.bool true] from if_neg (by omega)] at hb
  have ht:=Lib.hid (take_ps h hi)
  obtain ⟨c,h0,hf,hcc,hc2,h1,h2,h3,h4⟩:=h.raw
  have hle:=h.le
  have hm:0<ys.length+1 - i:=by omega
  clear h hf hcc hc2 h1 h3 h4 hc hn ho hn0
  generalize ys.length+1 - i=m at *
  generalize 4 * i=o at *
  go_enter Tryz.func195,Tryz.ntmps195
  go_wp2_with (go_at_call 193;refine hb.mono ?_;rintro e w' ⟨rfl,rfl⟩)
  go_at_call 146
  refine ht.out.mono ?_
  rintro e w' ⟨rfl,hC,hP⟩
  go_wp2
  go_ret2
  exact ⟨rfl,hC,hP⟩
end
end Go.Proofs.YtpcniebkabkikaaGreatDoor
namespace Go.Proofs.YtpcniebkabkikaaGreatDoor
open Go Go.RowKit Go.Proofs.Mm
def tmC (t:Syn.Tm):List Value:=[.int .i64 (t.kind:Int),.int .i64 (t.value:Int),.string (sb t.name)]
def tmCells (l:List Syn.Tm):List Value:=l.flatMap tmC
theorem tmCells_app (l m:List Syn.Tm):tmCells (l++m)=tmCells l++tmCells m:=by unfold tmCells;rw [List.flatMap_append]
theorem tmCells_one (t:Syn.Tm):tmCells [t]=tmC t:=by simp [tmCells]
theorem infoTm:∃ i,Tryz.prog.info? 45=some i∧i.zero=some (.agg #[.int .i64 0,.int .i64 0,.string ⟨#[]⟩])∧i.size=3∧i.bytes=32:=by
  have h:(Tryz.prog.info? 45).map (fun i=>(i.zero,i.size,i.bytes))=some (some (.agg #[.int .i64 0,.int .i64 0,.string ⟨#[]⟩]),3,32):=by kernel_rfl
  cases hi:Tryz.prog.info? 45 with
  | none=>rw [hi] at h;cases h
  | some i =>
    rw [hi] at h
    simp only [Option.map_some,Option.some.injEq,Prod.mk.injEq] at h
    obtain ⟨e1,e2,e3⟩:=h
    exact ⟨i,rfl,e1,e2,e3⟩
def TR (w:World) (v:Value) (l:List Syn.Tm):Prop:=w.ownsRow 0 45 3 v l.length (tmCells l)
theorem own_type {w:World} {B n size:Nat} {E:TypeId} {v:Value} {xs:List Value} (h:w.ownsRow B E size v n xs) {k:Nat} (hk:v.ownBlock=some k):∃ cur,w.heap[k]?=some (.cells cur E (0,0)):=by
  rcases h.2 with ⟨rfl,_⟩ | ⟨g,cap,cur,rfl,_,hg,_⟩
  · cases hk
  · obtain rfl:g=k:=by simpa [Value.ownBlock] using hk
    exact ⟨cur,hg⟩
theorem own_chg {w w':World} {B n size:Nat} {E:TypeId} {v:Value} {xs:List Value} (h:w.ownsRow B E size v n xs) {S:Nat→Prop} (hc:Chg S w w') (hn:∀ k,v.ownBlock=some k→¬ S k):w'.ownsRow B E size v n xs:=by
  refine ⟨h.1,?_⟩
  rcases h.2 with h0 | ⟨g,cap,cur,rfl,hb,hg,rest⟩
  · exact .inl h0
  · exact .inr ⟨g,cap,cur,rfl,hb,hc.heap hg (hn g rfl),rest⟩
theorem own_shape {w:World} {B n size:Nat} {E:TypeId} {v:Value} {xs:List Value} (h:w.ownsRow B E size v n xs):∃ q c,v=.slice q n c:=by
  rcases h.2 with ⟨rfl,rfl⟩ | ⟨g,cap,cur,rfl,_⟩
  · exact ⟨_,_,rfl⟩
  · exact ⟨_,_,rfl⟩
def TS (bp:Nat) (v:Value):Nat→Prop:=fun k=>k=bp ∨ v.ownBlock=some k
def TOk (ys:List It) (len bp bw:Nat) (vp:Value) (l0:List Syn.Tm) (v:Value) (w:World) (l:List Syn.Tm) (j:Nat) (e:Ending) (w':World):Prop :=
  ∃ v',e=.returned v'∧TR w' v' (l0++l)∧PS ys len bp bw vp w' j∧∀ k,v'.ownBlock=some k→v.ownBlock=some k ∨ w.heap.size≤k
def RdT (ys:List It) (len bp bw:Nat) (vp:Value) (K:FuncId) (args:Value→Array Value) (Inv:World→Prop) (r:Nat→Syn.R (List Syn.Tm)):Prop :=
  ∀ w i v l0,Inv w→PS ys len bp bw vp w i→TR w v l0→l0.length+(ys.length - i)≤131072→Calls Tryz.prog K (args v) w (Ret ys len (TS bp v) w (r i) (TOk ys len bp bw vp l0 v w))
section
variable {ys:List It} {len bp bw i:Nat} {vp:Value} {w:World}
theorem ps_not_row (h:PS ys len bp bw vp w i) {v:Value} {l:List Syn.Tm} (hr:TR w v l):v.ownBlock ≠ some bp∧v.ownBlock ≠ some bw:=by
  obtain ⟨⟨c,a1,_⟩,⟨arr,b1,_⟩,_,_⟩:=h
  constructor
  · intro e
    obtain ⟨cur,h2⟩:=own_type hr e
    have:=a1.symm.trans h2
    simp at this
  · intro e
    obtain ⟨cur,h2⟩:=own_type hr e
    have:=b1.symm.trans h2
    simp at this
theorem tr_next (h:PS ys len bp bw vp w i) {v:Value} {l:List Syn.Tm} (hr:TR w v l) {w':World} (hc:Chg (fun k=>k=bp) w w'):TR w' v l :=
  own_chg hr hc (fun k hk e=>by subst e;exact (ps_not_row h hr).1 hk)
theorem ts_le {v:Value} {w w':World} (hc:Chg (fun k=>k=bp) w w'):Chg (TS bp v) w w':=hc.mono fun _ e=>.inl (.inl e)
theorem tr_app (h:PS ys len bp bw vp w i) {v v':Value} {l:List Syn.Tm} (hr:TR w v l) {t:Syn.Tm} {w9:World} (T:TypeId)
    (hown:w9.ownsRow 0 45 3 v' (l.length+1) (tmCells l++tmC t)) (hg:(w.alloc (.cells (tmC t).toArray T)).grownBy w9 v.ownBlock) (hat:v'.ownBlock=v.ownBlock ∨ v'.ownBlock=some (w.heap.size+1)) :
    TR w9 v' (l++[t])∧PS ys len bp bw vp w9 i∧Chg (TS bp v) w w9∧∀ k,v'.ownBlock=some k→v.ownBlock=some k ∨ w.heap.size≤k:=by
  have hC:Chg (TS bp v) w w9:=((Chg.refl _ w).alloc _).then (grown_chg hg (fun k hk=>.inl (.inr hk)))
  have hC2:Chg (fun k=>v.ownBlock=some k) w w9:=((Chg.refl _ w).alloc _).then (grown_chg hg (fun k hk=>.inl hk))
  refine ⟨?_,h.chg hC2 (ps_not_row h hr).1 (ps_not_row h hr).2,hC,fun k hk=>?_⟩
  · unfold TR
    rw [List.length_append,List.length_singleton,tmCells_app,tmCells_one]
    exact hown
  · rcases hat with e | e
    · rw [e] at hk;exact .inl hk
    · rw [e] at hk
      simp only [Option.some.injEq] at hk
      exact .inr (by omega)
theorem tm_new (w:World) (t:Syn.Tm) (T:TypeId):∀ j u,(tmC t)[j]?=some u→(w.alloc (.cells (tmC t).toArray T)).cell? ((⟨w.heap.size,0,none⟩:Addr).add j)=some u:=row_new w (tmC t) T
theorem tm_one (t:Syn.Tm):∀ u ∈ tmC t,u.oneCell'=true:=by
  intro u hu
  unfold tmC at hu
  rcases List.mem_cons.1 hu with rfl | hu
  · rfl
  rcases List.mem_cons.1 hu with rfl | hu
  · rfl
  rcases List.mem_cons.1 hu with rfl | hu
  · rfl
  · exact absurd hu (by simp)
theorem bracketed_deep (h:PS ys len bp bw vp w i) (s:ByteArray) (v:Value) (S:Nat→Prop) :
    Calls Tryz.prog 228 #[.pointer (some ⟨bp,0,none⟩),.string s,v,.int .i64 12] w fun e w'=>e=.panicked (gv 51 ((tk ys len i).a:Nat))∧Chg S w w':=by
  go_enter Tryz.func228,Tryz.ntmps228
  go_wp2_with (go_at_call 144;refine (fail_ps h 51 S).mono ?_;rintro e w' ⟨rfl,hc⟩)
  exact ⟨rfl,rfl,hc⟩
set_option maxRecDepth 100000 in
theorem bracketed_some (hw:Ws ys) (h:PS ys len bp bw vp w i) (hi:i<ys.length) {d:Nat} (hd:d<12) {r:Nat→Syn.R (List Syn.Tm)} (s:ByteArray) (hs:Mk (bl s)=true)
    (hR:RdT ys len bp bw vp 102 (fun v=>#[.pointer (some ⟨bp,0,none⟩),v,.int .i64 ((d:Int)+1)]) (fun _=>True) r) {v:Value} {l0:List Syn.Tm} (hr:TR w v l0) (hb:l0.length+(ys.length - i)≤131072) :
    Calls Tryz.prog 228 #[.pointer (some ⟨bp,0,none⟩),.string s,v,.int .i64 (d:Int)] w (Ret ys len (TS bp v) w (Syn.brack (Tk ys) (some r) (fun l=>l) (bl s) i) (TOk ys len bp bw vp l0 v w)):=by
  have hne:((d:Int) == 12)=false:=by simp;omega
  have ht:=take_ps h hi
  have HR:=Lib.hid hR
  clear hR
  cases hri:r (i+1) with
  | error q =>
    obtain ⟨er,k⟩:=q
    have hB:Syn.brack (Tk ys) (some r) (fun l=>l) (bl s) i=.error (er,k):=by unfold Syn.brack;simp only [hri,Syn.R.on]
    rw [hB]
    clear hB
    have HRI:=Lib.hid hri
    clear hri
    go_enter Tryz.func228,Tryz.ntmps228
    go_wp2_with (go_at_call 146;refine ht.mono ?_;rintro e w1 ⟨rfl,hc1,hp1⟩)
    have hcall:=HR.out w1 (i+1) v l0 trivial hp1 (tr_next h hr hc1) (by omega)
    rw [HRI.out] at hcall
    go_at_call 102
    refine hcall.mono ?_
    rintro e w2 ⟨hc2,rfl⟩
    exact ⟨rfl,(ts_le hc1).then hc2,rfl⟩
  | ok q =>
    obtain ⟨l,j⟩:=q
    by_cases hx:Syn.is (Tk ys) j (bl s)=true
    · have hj:j<ys.length:=by
        rcases Nat.lt_or_ge j ys.length with q | q
        · exact q
        · rw [Syn.is,Tk_none q] at hx;cases hx
      have hB:Syn.brack (Tk ys) (some r) (fun l=>l) (bl s) i=.ok (l,j+1):=by
        unfold Syn.brack
        simp only [hri,Syn.R.on]
        rw [show Syn.want (Tk ys) j (bl s)=.ok ((),j+1) from if_pos hx]
      rw [hB]
      clear hB
      have HRI:=Lib.hid hri
      have hx2:((tk ys len j).t.toList == s.toList)=true:=by rw [eq_text,is_text hw len j hs];exact hx
      have HX:=Lib.hid hx2
      clear hri hx hx2
      go_enter Tryz.func228,Tryz.ntmps228
      go_wp2_with (go_at_call 146;refine ht.mono ?_;rintro e w1 ⟨rfl,hc1,hp1⟩)
      have hcall:=HR.out w1 (i+1) v l0 trivial hp1 (tr_next h hr hc1) (by omega)
      rw [HRI.out] at hcall
      have hsz:=hc1.size
      go_at_call 102
      refine hcall.mono ?_
      rintro e w2 ⟨hc2,v',rfl,hr2,hp2,hob⟩
      have hwt:=want_yes hp2 hj s HX.out
      go_wp2_with (go_at_call 149;refine hwt.mono ?_;rintro e w3 ⟨rfl,hc3,hp3⟩)
      go_ret
      exact ⟨((ts_le hc1).then hc2).then (ts_le hc3),v',rfl,tr_next hp2 hr2 hc3,hp3,fun k hk=>by rcases hob k hk with q | q <;> first | exact .inl q | exact .inr (by omega)⟩
    · have hB:Syn.brack (Tk ys) (some r) (fun l=>l) (bl s) i=.error (50,j):=by
        unfold Syn.brack
        simp only [hri,Syn.R.on]
        rw [show Syn.want (Tk ys) j (bl s)=.error (50,j) from if_neg hx]
      rw [hB]
      clear hB
      have HRI:=Lib.hid hri
      have hx2:((tk ys len j).t.toList == s.toList)=false:=by rw [eq_text,is_text hw len j hs];simpa using hx
      have HX:=Lib.hid hx2
      clear hri hx hx2
      go_enter Tryz.func228,Tryz.ntmps228
      go_wp2_with (go_at_call 146;refine ht.mono ?_;rintro e w1 ⟨rfl,hc1,hp1⟩)
      have hcall:=HR.out w1 (i+1) v l0 trivial hp1 (tr_next h hr hc1) (by omega)
      rw [HRI.out] at hcall
      go_at_call 102
      refine hcall.mono ?_
      rintro e w2 ⟨hc2,v',rfl,hr2,hp2,hob⟩
      have hwt:=want_no hp2 s HX.out (TS bp v)
      go_wp2_with (go_at_call 149;refine hwt.mono ?_;rintro e w3 ⟨rfl,hc3⟩)
      exact ⟨rfl,((ts_le hc1).then hc2).then (hc3.mono fun _ q=>.inl q),rfl⟩
end
end Go.Proofs.YtpcniebkabkikaaGreatDoor
namespace Go.Proofs.YtpcniebkabkikaaGreatDoor
open Go Go.RowKit Go.Proofs.Mm
def EOk (ys:List It) (len bp bw:Nat) (vp:Value) (d:Nat) (e:Option (Nat→Syn.R (List Syn.Tm))):Prop :=
  (d=12∧e=none) ∨ (d<12∧∃ r,e=some r∧Syn.Cnt r∧Syn.FitP ys.length r∧RdT ys len bp bw vp 102 (fun v=>#[.pointer (some ⟨bp,0,none⟩),v,.int .i64 ((d:Int)+1)]) (fun _=>True) r)
theorem EOk.cnt {ys:List It} {len bp bw d:Nat} {vp:Value} {e:Option (Nat→Syn.R (List Syn.Tm))} (h:EOk ys len bp bw vp d e):∀ p,e=some p→Syn.Cnt p:=by
  rcases h with ⟨_,rfl⟩ | ⟨_,r,rfl,h,_⟩
  · intro p hp;cases hp
  · intro p hp;cases hp;exact h
theorem EOk.fit {ys:List It} {len bp bw d:Nat} {vp:Value} {e:Option (Nat→Syn.R (List Syn.Tm))} (h:EOk ys len bp bw vp d e):∀ p,e=some p→Syn.FitP ys.length p:=by
  rcases h with ⟨_,rfl⟩ | ⟨_,r,rfl,_,h,_⟩
  · intro p hp;cases hp
  · intro p hp;cases hp;exact h
theorem tk_nones (ys:List It):∀ i,ys.length≤i→Tk ys i=none:=fun _ h=>Tk_none h
theorem lt_of_is {ys:List It} {i:Nat} {s:List Nat} (h:Syn.is (Tk ys) i s=true):i<ys.length:=Syn.is_lt (tk_nones ys) h
theorem lt_of_named {ys:List It} {i:Nat} (h:Syn.named (Tk ys) i=true):i<ys.length:=Syn.named_lt (tk_nones ys) h
theorem brack_g {T:Nat→Option Syn.K} (e:Option (Nat→Syn.R (List Syn.Tm))) (g:List Syn.Tm→List Syn.Tm) (s:List Nat) (i:Nat) :
    Syn.brack T e g s i=(Syn.brack T e (fun l=>l) s i).on fun l j=>.ok (g l,j):=by
  unfold Syn.brack
  cases e with
  | none=>rfl
  | some r =>
    simp only
    cases r (i+1) with
    | error q=>rfl
    | ok q =>
      simp only [Syn.R.on]
      cases Syn.want T q.2 s with
      | error q=>rfl
      | ok q=>rfl
def isNum (T:Nat→Option Syn.K) (i:Nat):Bool:=match T i with | some k=>k.kind == 3 | none=>false
theorem num_kind (ys:List It) (len i:Nat):(((tk ys len i).k:Int) == 3)=isNum (Tk ys) i:=by
  by_cases h:i<ys.length
  · unfold isNum;rw [Tk_some (len:=len) h];simp only [keyOf];rw [Bool.eq_iff_iff,beq_iff_eq,beq_iff_eq];omega
  · rw [tk_end ys len (by omega)];unfold isNum;rw [Tk_none (by omega)];rfl
theorem lt_of_num {ys:List It} {i:Nat} (h:isNum (Tk ys) i=true):i<ys.length:=by
  rcases Nat.lt_or_ge i ys.length with q | q
  · exact q
  · rw [isNum,Tk_none q] at h;cases h
theorem atom_num {ys:List It} (len:Nat) {i:Nat} (e:Option (Nat→Syn.R (List Syn.Tm))) (h:isNum (Tk ys) i=true):Syn.atom (Tk ys) e i=.ok ([⟨1,(tk ys len i).v,[]⟩],i+1):=by
  have hi:=lt_of_num h
  unfold isNum at h
  unfold Syn.atom
  rw [Tk_some (len:=len) hi] at h ⊢
  exact if_pos (by simpa using h)
theorem atom_rest {ys:List It} {i:Nat} (e:Option (Nat→Syn.R (List Syn.Tm))) (h:isNum (Tk ys) i=false):Syn.atom (Tk ys) e i=if Syn.is (Tk ys) i [40] then Syn.brack (Tk ys) e (fun l=>l) [41] i else Syn.atomN (Tk ys) e i:=by
  unfold isNum at h
  unfold Syn.atom
  cases hT:Tk ys i with
  | none =>
    simp only [Syn.is,hT,Bool.false_eq_true,if_false,Syn.atomN,Syn.name,Syn.R.on]
  | some k =>
    rw [hT] at h
    simp only
    rw [if_neg (by simpa using h)]
theorem name_no {ys:List It} {i:Nat} (h:Syn.named (Tk ys) i=false):Syn.name (Tk ys) i=.error (50,i):=by
  unfold Syn.named at h
  unfold Syn.name
  cases hT:Tk ys i with
  | none=>rfl
  | some k=>rw [hT] at h;exact if_neg (by simpa using h)
theorem name_yes {ys:List It} (len:Nat) {i:Nat} (h:Syn.named (Tk ys) i=true):Syn.name (Tk ys) i=.ok (bl (tk ys len i).t,i+1):=by
  have hi:=lt_of_named h
  unfold Syn.named at h
  unfold Syn.name
  rw [Tk_some (len:=len) hi] at h ⊢
  exact if_pos (by simpa using h)
section
variable {ys:List It} {len bp bw i:Nat} {vp:Value} {w:World}
theorem bracketed_any (hw:Ws ys) (h:PS ys len bp bw vp w i) (hi:i<ys.length) {d:Nat} {e:Option (Nat→Syn.R (List Syn.Tm))} (he:EOk ys len bp bw vp d e) (s:ByteArray) (hs:Mk (bl s)=true) {v:Value} {l0:List Syn.Tm} (hr:TR w v l0) (hb:l0.length+(ys.length - i)≤131072) :
    Calls Tryz.prog 228 #[.pointer (some ⟨bp,0,none⟩),.string s,v,.int .i64 (d:Int)] w (Ret ys len (TS bp v) w (Syn.brack (Tk ys) e (fun l=>l) (bl s) i) (TOk ys len bp bw vp l0 v w)):=by
  rcases he with ⟨rfl,rfl⟩ | ⟨hd,r,rfl,_,_,hR⟩
  · exact (bracketed_deep h s v (TS bp v)).mono fun e w' ⟨h1,h2⟩=>⟨h2,h1⟩
  · exact bracketed_some hw h hi hd s hs hR hr hb
theorem name_one (h:PS ys len bp bw vp w i) (hn:Syn.named (Tk ys) i=true):Calls Tryz.prog 150 #[.pointer (some ⟨bp,0,none⟩)] w fun e w'=>e=.returned (.string (tk ys len i).t)∧Chg (fun k=>k=bp) w w'∧PS ys len bp bw vp w' (i+1):=by
  have h1:=name_ps h
  rw [name_yes len hn] at h1
  refine h1.mono fun e w' ⟨a,b,c⟩=>⟨by rw [b,sb_bl],a,c⟩
theorem name_none (h:PS ys len bp bw vp w i) (hn:Syn.named (Tk ys) i=false) (S:Nat→Prop) (hS:S bp):Calls Tryz.prog 150 #[.pointer (some ⟨bp,0,none⟩)] w fun e w'=>e=.panicked (gv 50 ((tk ys len i).a:Nat))∧Chg S w w':=by
  have h1:=name_ps h
  rw [name_no hn] at h1
  exact h1.mono fun e w' ⟨a,b⟩=>⟨b,a.mono fun _ q=>.inl (by subst q;exact hS)⟩
attribute [local go_sem] tok_text tok_value
set_option maxRecDepth 100000 in
theorem plain_num (h:PS ys len bp bw vp w i) (hn:isNum (Tk ys) i=true) (d:Int) {v:Value} {l0:List Syn.Tm} (hr:TR w v l0) (hb:l0.length+(ys.length - i)≤131072) :
    Calls Tryz.prog 196 #[.pointer (some ⟨bp,0,none⟩),v,.int .i64 d] w fun e w'=>Chg (TS bp v) w w'∧TOk ys len bp bw vp l0 v w [⟨1,(tk ys len i).v,[]⟩] (i+1) e w':=by
  have hi:=lt_of_num hn
  obtain ⟨i0,hi0,hz0,hz1,hz2⟩:=infoTm
  have h1:=isKind_ps h 3
  rw [num_kind,hn] at h1
  have ht:=take_ps h hi
  go_enter Tryz.func196,Tryz.ntmps196
  go_wp2_with (go_at_call 184;refine h1.mono ?_;rintro e w' ⟨rfl,rfl⟩)
  go_at_call 146
  refine ht.mono ?_
  rintro e w1 ⟨rfl,hc1,hp1⟩
  have hr1:=tr_next h hr hc1
  go_wp2_with (at_builtin;refine wpList_append_own_at _ rfl _ _ 37 rfl 0 45 i0 _ 3 32 Tryz.underlying37 hi0 hz0 hz1 hz2 rfl (by decide) _ _ _ rfl (hr1.alloc _) ⟨w1.heap.size,0,none⟩ 1 1 (tmC ⟨1,(tk ys len i).v,[]⟩) rfl rfl (tm_new w1 ⟨1,(tk ys len i).v,[]⟩ 45) (tm_one _) (by unfold maxLen;omega) (by omega) (Nat.zero_le _) ?_)
  intro v' w9 hown9 hgrow9 _ hat9
  obtain ⟨a1,a2,a3,a4⟩:=tr_app hp1 hr1 45 hown9 hgrow9 hat9
  have hsz:=hc1.size
  clear hown9 hgrow9 hat9
  go_wp2
  go_ret
  exact ⟨(ts_le hc1).then a3,v',rfl,a1,a2,fun k hk=>by rcases a4 k hk with q | q <;> first | exact .inl q | exact .inr (by omega)⟩
theorem mk_40:Mk (bl ⟨#[40]⟩)=true:=by decide
theorem mk_41:Mk (bl ⟨#[41]⟩)=true:=by decide
theorem mk_91:Mk (bl ⟨#[91]⟩)=true:=by decide
theorem mk_93:Mk (bl ⟨#[93]⟩)=true:=by decide
set_option maxRecDepth 100000 in
theorem plain_par (hw:Ws ys) (h:PS ys len bp bw vp w i) (hn:isNum (Tk ys) i=false) (hp:Syn.is (Tk ys) i [40]=true) {d:Nat} {e:Option (Nat→Syn.R (List Syn.Tm))} (he:EOk ys len bp bw vp d e) {v:Value} {l0:List Syn.Tm} (hr:TR w v l0) (hb:l0.length+(ys.length - i)≤131072) :
    Calls Tryz.prog 196 #[.pointer (some ⟨bp,0,none⟩),v,.int .i64 (d:Int)] w (Ret ys len (TS bp v) w (Syn.brack (Tk ys) e (fun l=>l) [41] i) (TOk ys len bp bw vp l0 v w)):=by
  have hi:=lt_of_is hp
  have h1:=isKind_ps h 3
  rw [num_kind,hn] at h1
  have h2:=is_ps h ⟨#[40]⟩
  rw [eq_text,is_text hw len i mk_40,show bl ⟨#[40]⟩=[40] from rfl,hp] at h2
  have h3:=bracketed_any hw h hi he ⟨#[41]⟩ mk_41 hr hb
  rw [show bl ⟨#[41]⟩=[41] from rfl] at h3
  clear hn hp
  cases hB:Syn.brack (Tk ys) e (fun l=>l) [41] i with
  | error q =>
    obtain ⟨er,k⟩:=q
    rw [hB] at h3
    have HB:=Lib.hid hB
    clear hB
    go_enter Tryz.func196,Tryz.ntmps196
    go_wp2_with (first | (go_at_call 184;refine h1.mono ?_;rintro e w' ⟨rfl,rfl⟩) | (go_at_call 145;refine h2.mono ?_;rintro e w' ⟨rfl,rfl⟩))
    go_at_call 228
    refine h3.mono ?_
    rintro e w1 ⟨hc1,rfl⟩
    exact ⟨rfl,hc1,rfl⟩
  | ok q =>
    obtain ⟨l,j⟩:=q
    rw [hB] at h3
    have HB:=Lib.hid hB
    clear hB
    go_enter Tryz.func196,Tryz.ntmps196
    go_wp2_with (first | (go_at_call 184;refine h1.mono ?_;rintro e w' ⟨rfl,rfl⟩) | (go_at_call 145;refine h2.mono ?_;rintro e w' ⟨rfl,rfl⟩))
    go_at_call 228
    refine h3.mono ?_
    rintro e w1 ⟨hc1,v',rfl,a1,a2,a3⟩
    go_wp2
    go_ret
    exact ⟨hc1,v',rfl,a1,a2,a3⟩
set_option maxRecDepth 100000 in
theorem plain_none (hw:Ws ys) (h:PS ys len bp bw vp w i) (hn:isNum (Tk ys) i=false) (hp:Syn.is (Tk ys) i [40]=false) (hm:Syn.named (Tk ys) i=false) (d:Int) (v:Value) :
    Calls Tryz.prog 196 #[.pointer (some ⟨bp,0,none⟩),v,.int .i64 d] w fun e w'=>Chg (TS bp v) w w'∧e=.panicked (gv 50 ((tk ys len i).a:Nat)):=by
  have h1:=isKind_ps h 3
  rw [num_kind,hn] at h1
  have h2:=is_ps h ⟨#[40]⟩
  rw [eq_text,is_text hw len i mk_40,show bl ⟨#[40]⟩=[40] from rfl,hp] at h2
  have h3:=name_none h hm (TS bp v) (.inl rfl)
  clear hn hp hm
  go_enter Tryz.func196,Tryz.ntmps196
  go_wp2_with (first | (go_at_call 184;refine h1.mono ?_;rintro e w' ⟨rfl,rfl⟩) | (go_at_call 145;refine h2.mono ?_;rintro e w' ⟨rfl,rfl⟩))
  go_at_call 150
  refine h3.mono ?_
  rintro e w1 ⟨rfl,hc1⟩
  exact ⟨rfl,hc1,rfl⟩
set_option maxRecDepth 100000 in
theorem plain_name (hw:Ws ys) (h:PS ys len bp bw vp w i) (hn:isNum (Tk ys) i=false) (hp:Syn.is (Tk ys) i [40]=false) (hm:Syn.named (Tk ys) i=true) (hq:Syn.is (Tk ys) (i+1) [91]=false) (d:Int) {v:Value} {l0:List Syn.Tm} (hr:TR w v l0) (hb:l0.length+(ys.length - i)≤131072) :
    Calls Tryz.prog 196 #[.pointer (some ⟨bp,0,none⟩),v,.int .i64 d] w fun e w'=>Chg (TS bp v) w w'∧TOk ys len bp bw vp l0 v w [⟨2,0,bl (tk ys len i).t⟩] (i+1) e w':=by
  have hi:=lt_of_named hm
  obtain ⟨i0,hi0,hz0,hz1,hz2⟩:=infoTm
  have h1:=isKind_ps h 3
  rw [num_kind,hn] at h1
  have h2:=is_ps h ⟨#[40]⟩
  rw [eq_text,is_text hw len i mk_40,show bl ⟨#[40]⟩=[40] from rfl,hp] at h2
  have h3:=name_one h hm
  have h4:=Lib.hid (fun w1 (hp1:PS ys len bp bw vp w1 (i+1))=>by
    have:=is_ps hp1 ⟨#[91]⟩
    rw [eq_text,is_text hw len (i+1) mk_91,show bl ⟨#[91]⟩=[91] from rfl,hq] at this
    exact this)
  have HC:=Lib.hid (show tmC ⟨2,0,bl (tk ys len i).t⟩=[.int .i64 2,.int .i64 0,.string (tk ys len i).t] from by unfold tmC;rw [sb_bl];rfl)
  clear hn hp hm hq
  go_enter Tryz.func196,Tryz.ntmps196
  go_wp2_with (first | (go_at_call 184;refine h1.mono ?_;rintro e w' ⟨rfl,rfl⟩) | (go_at_call 145;refine h2.mono ?_;rintro e w' ⟨rfl,rfl⟩))
  go_at_call 150
  refine h3.mono ?_
  rintro e w1 ⟨rfl,hc1,hp1⟩
  have hr1:=tr_next h hr hc1
  have h5:=h4.out w1 hp1
  have hnew:=tm_new w1 ⟨2,0,bl (tk ys len i).t⟩ 45
  have hone:=tm_one ⟨2,0,bl (tk ys len i).t⟩
  have happ:=Lib.hid (fun v' w9=>tr_app (t:=⟨2,0,bl (tk ys len i).t⟩) (v':=v') (w9:=w9) hp1 hr1 45)
  rw [HC.out] at hnew hone happ
  go_wp2_with (first | (go_at_call 145;refine h5.mono ?_;rintro e w' ⟨rfl,rfl⟩) | (at_builtin;refine wpList_append_own_at _ rfl _ _ 37 rfl 0 45 i0 _ 3 32 Tryz.underlying37 hi0 hz0 hz1 hz2 rfl (by decide) _ _ _ rfl (hr1.alloc _) ⟨w1.heap.size,0,none⟩ 1 1 [.int .i64 2,.int .i64 0,.string (tk ys len i).t] rfl rfl hnew hone (by unfold maxLen;omega) (by omega) (Nat.zero_le _) ?_))
  intro v' w9 hown9 hgrow9 _ hat9
  obtain ⟨a1,a2,a3,a4⟩:=happ.out v' w9 hown9 hgrow9 hat9
  have hsz:=hc1.size
  clear hown9 hgrow9 hat9
  go_wp2
  go_ret
  exact ⟨(ts_le hc1).then a3,v',rfl,a1,a2,fun k hk=>by rcases a4 k hk with q | q <;> first | exact .inl q | exact .inr (by omega)⟩
set_option maxRecDepth 100000 in
theorem plain_index_bad (hw:Ws ys) (h:PS ys len bp bw vp w i) (hn:isNum (Tk ys) i=false) (hp:Syn.is (Tk ys) i [40]=false) (hm:Syn.named (Tk ys) i=true) (hq:Syn.is (Tk ys) (i+1) [91]=true) {d:Nat} {e:Option (Nat→Syn.R (List Syn.Tm))} (he:EOk ys len bp bw vp d e) {v:Value} {l0:List Syn.Tm} (hr:TR w v l0) (hb:l0.length+(ys.length - i)≤131072)
    {er k:Nat} (hB:Syn.brack (Tk ys) e (fun l=>l) [93] (i+1)=.error (er,k)) :
    Calls Tryz.prog 196 #[.pointer (some ⟨bp,0,none⟩),v,.int .i64 (d:Int)] w fun e w'=>Chg (TS bp v) w w'∧e=.panicked (gv er ((tk ys len k).a:Nat)):=by
  have hi:=lt_of_is hq
  have h1:=isKind_ps h 3
  rw [num_kind,hn] at h1
  have h2:=is_ps h ⟨#[40]⟩
  rw [eq_text,is_text hw len i mk_40,show bl ⟨#[40]⟩=[40] from rfl,hp] at h2
  have h3:=name_one h hm
  have h4:=Lib.hid (fun w1 (hp1:PS ys len bp bw vp w1 (i+1))=>by
    have:=is_ps hp1 ⟨#[91]⟩
    rw [eq_text,is_text hw len (i+1) mk_91,show bl ⟨#[91]⟩=[91] from rfl,hq] at this
    exact this)
  have h6:=Lib.hid (fun w1 (hp1:PS ys len bp bw vp w1 (i+1)) (hr1:TR w1 v l0)=>by
    have:=bracketed_any hw hp1 hi he ⟨#[93]⟩ mk_93 hr1 (by omega)
    rw [show bl ⟨#[93]⟩=[93] from rfl,hB] at this
    exact this)
  clear hn hp hm hq hB
  go_enter Tryz.func196,Tryz.ntmps196
  go_wp2_with (first | (go_at_call 184;refine h1.mono ?_;rintro e w' ⟨rfl,rfl⟩) | (go_at_call 145;refine h2.mono ?_;rintro e w' ⟨rfl,rfl⟩))
  go_at_call 150
  refine h3.mono ?_
  rintro e w1 ⟨rfl,hc1,hp1⟩
  have hr1:=tr_next h hr hc1
  have h5:=h4.out w1 hp1
  go_wp2_with (go_at_call 145;refine h5.mono ?_;rintro e w' ⟨rfl,rfl⟩)
  go_at_call 228
  refine (h6.out w1 hp1 hr1).mono ?_
  rintro e w2 ⟨hc2,rfl⟩
  exact ⟨rfl,(ts_le hc1).then hc2,rfl⟩
set_option maxRecDepth 100000 in
theorem plain_index (hw:Ws ys) (h:PS ys len bp bw vp w i) (hn:isNum (Tk ys) i=false) (hp:Syn.is (Tk ys) i [40]=false) (hm:Syn.named (Tk ys) i=true) (hq:Syn.is (Tk ys) (i+1) [91]=true) {d:Nat} {e:Option (Nat→Syn.R (List Syn.Tm))} (he:EOk ys len bp bw vp d e) {v:Value} {l0:List Syn.Tm} (hr:TR w v l0) (hb:l0.length+(ys.length - i)≤131072)
    {l:List Syn.Tm} {j:Nat} (hB:Syn.brack (Tk ys) e (fun l=>l) [93] (i+1)=.ok (l,j)) (hlj:l.length+(i+1)≤j) (hj:j≤ys.length) :
    Calls Tryz.prog 196 #[.pointer (some ⟨bp,0,none⟩),v,.int .i64 (d:Int)] w fun e w'=>Chg (TS bp v) w w'∧TOk ys len bp bw vp l0 v w (l++[⟨3,0,bl (tk ys len i).t⟩]) j e w':=by
  have hi:=lt_of_is hq
  obtain ⟨i0,hi0,hz0,hz1,hz2⟩:=infoTm
  have h1:=isKind_ps h 3
  rw [num_kind,hn] at h1
  have h2:=is_ps h ⟨#[40]⟩
  rw [eq_text,is_text hw len i mk_40,show bl ⟨#[40]⟩=[40] from rfl,hp] at h2
  have h3:=name_one h hm
  have h4:=Lib.hid (fun w1 (hp1:PS ys len bp bw vp w1 (i+1))=>by
    have:=is_ps hp1 ⟨#[91]⟩
    rw [eq_text,is_text hw len (i+1) mk_91,show bl ⟨#[91]⟩=[91] from rfl,hq] at this
    exact this)
  have h6:=Lib.hid (fun w1 (hp1:PS ys len bp bw vp w1 (i+1)) (hr1:TR w1 v l0)=>by
    have:=bracketed_any hw hp1 hi he ⟨#[93]⟩ mk_93 hr1 (by omega)
    rw [show bl ⟨#[93]⟩=[93] from rfl,hB] at this
    exact this)
  have HC:=Lib.hid (show tmC ⟨3,0,bl (tk ys len i).t⟩=[.int .i64 3,.int .i64 0,.string (tk ys len i).t] from by unfold tmC;rw [sb_bl];rfl)
  clear hn hp hm hq hB
  go_enter Tryz.func196,Tryz.ntmps196
  go_wp2_with (first | (go_at_call 184;refine h1.mono ?_;rintro e w' ⟨rfl,rfl⟩) | (go_at_call 145;refine h2.mono ?_;rintro e w' ⟨rfl,rfl⟩))
  go_at_call 150
  refine h3.mono ?_
  rintro e w1 ⟨rfl,hc1,hp1⟩
  have hr1:=tr_next h hr hc1
  have h5:=h4.out w1 hp1
  have hsz1:=hc1.size
  go_wp2_with (go_at_call 145;refine h5.mono ?_;rintro e w' ⟨rfl,rfl⟩)
  go_at_call 228
  refine (h6.out w1 hp1 hr1).mono ?_
  rintro e w2 ⟨hc2,v2,rfl,hr2,hp2,hob2⟩
  have hsz2:=hc2.size
  have hnew:=tm_new w2 ⟨3,0,bl (tk ys len i).t⟩ 45
  have hone:=tm_one ⟨3,0,bl (tk ys len i).t⟩
  have happ:=Lib.hid (fun v' w9=>tr_app (t:=⟨3,0,bl (tk ys len i).t⟩) (v':=v') (w9:=w9) hp2 hr2 45)
  have hlen:(l0++l).length≤131072:=by rw [List.length_append];omega
  rw [HC.out] at hnew hone happ
  go_wp2_with (at_builtin;refine wpList_append_own_at _ rfl _ _ 37 rfl 0 45 i0 _ 3 32 Tryz.underlying37 hi0 hz0 hz1 hz2 rfl (by decide) _ _ _ rfl (hr2.alloc _) ⟨w2.heap.size,0,none⟩ 1 1 [.int .i64 3,.int .i64 0,.string (tk ys len i).t] rfl rfl hnew hone (by unfold maxLen;omega) (by omega) (Nat.zero_le _) ?_)
  intro v' w9 hown9 hgrow9 _ hat9
  obtain ⟨a1,a2,a3,a4⟩:=happ.out v' w9 (by rw [List.length_append];exact hown9) hgrow9 hat9
  rw [List.append_assoc] at a1
  clear hown9 hgrow9 hat9
  go_wp2
  go_ret
  refine ⟨((ts_le hc1).then hc2).trans a3 (fun k hk=>?_),v',rfl,a1,a2,fun k hk=>?_⟩
  · rcases hk with q | q
    · exact .inl (.inl q)
    · rcases hob2 k q with q | q
      · exact .inl (.inr q)
      · exact .inr (by omega)
  · rcases a4 k hk with q | q
    · rcases hob2 k q with q | q
      · exact .inl q
      · exact .inr (by omega)
    · exact .inr (by omega)
theorem plain_any (hw:Ws ys) {d:Nat} {e:Option (Nat→Syn.R (List Syn.Tm))} (he:EOk ys len bp bw vp d e):RdT ys len bp bw vp 196 (fun v=>#[.pointer (some ⟨bp,0,none⟩),v,.int .i64 (d:Int)]) (fun _=>True) (Syn.atom (Tk ys) e):=by
  intro w i v l0 _ h hr hb
  cases hn:isNum (Tk ys) i with
  | true=>rw [atom_num len e hn];exact plain_num h hn d hr hb
  | false =>
    rw [atom_rest e hn]
    cases hp:Syn.is (Tk ys) i [40] with
    | true=>rw [if_pos rfl];exact plain_par hw h hn hp he hr hb
    | false =>
      rw [if_neg (by simp)]
      unfold Syn.atomN
      cases hm:Syn.named (Tk ys) i with
      | false=>rw [name_no hm];exact plain_none hw h hn hp hm d v
      | true =>
        rw [name_yes len hm]
        simp only [Syn.R.on]
        cases hq:Syn.is (Tk ys) (i+1) [91] with
        | false=>rw [if_neg (by simp)];exact plain_name hw h hn hp hm hq d hr hb
        | true =>
          rw [if_pos rfl,brack_g]
          cases hB:Syn.brack (Tk ys) e (fun l=>l) [93] (i+1) with
          | error q=>exact plain_index_bad hw h hn hp hm hq he hr hb hB
          | ok q =>
            obtain ⟨l,j⟩:=q
            have hc:=Syn.brack_cnt he.cnt (g:=fun l=>l) (fun l=>Nat.le_succ _) hB
            have hf:=(Syn.brack_fit (tk_nones ys) he.fit (fun l=>l) [93] (lt_of_is hq)).pos hB
            exact plain_index hw h hn hp hm hq he hr hb hB hc hf
end
end Go.Proofs.YtpcniebkabkikaaGreatDoor
namespace Go.Proofs.YtpcniebkabkikaaGreatDoor
open Go Go.RowKit Go.Proofs.Mm
def NumsAt (w:World) (q:Option Addr) (ops:List Nat):Prop :=
  ∀ j (h:j<ops.length),∃ g cur,q=some ⟨g,0,none⟩∧w.heap[g]?=some (.cells cur 3 (0,0))∧cur[j]?=some (.int .i64 (ops[j]:Nat))
def KpB (Bx:Nat) (q:Option Addr) (A B:World):Prop:=B.heap[Bx]?=A.heap[Bx]?∧∀ a,q=some a→B.heap[a.block]?=A.heap[a.block]?
theorem NumsAt.kept {A B:World} {Bx:Nat} {q:Option Addr} {ops:List Nat} (h:NumsAt A q ops) (hk:KpB Bx q A B):NumsAt B q ops:=fun j hj=>by
  obtain ⟨g,cur,h1,h2,h3⟩:=h j hj
  exact ⟨g,cur,h1,(hk.2 _ h1).trans h2,h3⟩
theorem NumsAt.below {A B:World} {q:Option Addr} {ops:List Nat} (h:NumsAt A q ops) (hb:Below A.heap.size A B):NumsAt B q ops:=fun j hj=>by
  obtain ⟨g,cur,h1,h2,h3⟩:=h j hj
  exact ⟨g,cur,h1,(hb.block g (heap_lt h2)).trans h2,h3⟩
theorem cast_sub_one (k:Nat):(((k+1:Nat):Int) - 1)=(k:Int):=by omega
set_option maxRecDepth 100000 in
set_option maxHeartbeats 1000000 in
theorem back_stops (n Bx:Nat) (q:Option Addr) (c:Nat) (ops:List Nat) (hlen:ops.length≤131072) (w:World) (hB:w.heap[Bx]?=some (.cells #[.slice q ops.length c] 67 (0,0))) (hN:NumsAt w q ops) :
    SeqStopsK Fence.wide n Tryz.prog 229 #[.pointer (some ⟨Bx,0,none⟩)] (fun x:Nat × Nat=>#[Value.int .i64 (x.1:Int),Value.int .i64 (x.2:Int)]) (KpB Bx q) (fun xs=>xs.map Prod.snd=ops.reverse) (fun _=>True) ops.length w:=by
  intro l J Jx W hW _ _ hY h0
  have hB1:=(hW.block Bx (heap_lt hB)).trans hB
  have hN1:=hN.below hW
  clear hB hN hW
  have hc0:=cell_of (j:=0) hB1 rfl
  obtain ⟨m0,hm0⟩:∃ m0,ops.length=m0:=⟨_,rfl⟩
  rw [hm0] at hc0 hlen hY
  have HM:=Lib.hid hm0
  clear hm0
  refine callsIn_of_wp Tryz.func229 rfl trivial ?_ rfl
  simp only [Tryz.ntmps229,List.size_toArray,List.length_cons,List.length_nil,Nat.reduceAdd,Nat.reduceSub,Array.replicate_succ,Array.replicate_zero,List.push_toArray,List.append_toArray,List.nil_append,List.cons_append]
  gi_wp2
  gi_loopw [3] (fun t wr=>∃ (pre:List (Nat × Nat)) (m:Nat),m≤m0∧t=.int .i64 ((m:Int) - 1)∧Hid (pre.map Prod.snd=(ops.drop m).reverse)∧wr.heap[Bx]?=some (.cells #[.slice q m0 c] 67 (0,0))∧NumsAt wr q ops∧J pre wr)
    (fun t _=>(intOf t+1).toNat)
  case atStart =>
    exact ⟨[],m0,Nat.le_refl _,rfl,Lib.hid (by rw [← HM.out];simp),by rw [← HM.out];exact hB1,hN1,h0⟩
  case round =>
    obtain ⟨pre,m,hm,rfl,HP,hBr,hNr,hJr⟩:=hrel
    clear hB1 hN1 h0 hc0
    have hcr:=cell_of (j:=0) hBr rfl
    cases m with
    | zero =>
      gi_wp2
      go_end0
      exact ⟨⟨_,rfl⟩,.inl ⟨pre,by have:=HP.out;simpa using this,hJr⟩⟩
    | succ k =>
      have hk:k<ops.length:=by rw [HM.out];omega
      obtain ⟨g,cur,rfl,hg,hcur⟩:=hNr k hk
      have hck:=cell_of hg hcur
      have hpl:pre.length<m0:=by
        have h1:=congrArg List.length HP.out
        simp only [List.length_map,List.length_reverse,List.length_drop] at h1
        have:=HM.out
        omega
      obtain ⟨fn,tmps,assign,body,hy,hR⟩:=hY pre (k,ops[k]) wr hJr hpl
      have HP2:=Lib.hid (show (pre++[(k,ops[k])]).map Prod.snd=(ops.drop k).reverse from by
        rw [List.map_append,HP.out,List.drop_eq_getElem_cons hk,List.reverse_cons];rfl)
      have hNr2:=Lib.hid hNr
      have hBr2:=Lib.hid hBr
      clear HP hpl hcur hg hJr hNr hBr
      generalize ops[k]=ok at *
      rw [cast_sub_one]
      gi_wp2
      refine ⟨(fun h=>by cases h),hR.mono ?_⟩
      rintro e W3 (⟨rfl,hJ3,hk3⟩ | ⟨rfl,hJx3⟩)
      · have hB3:=Lib.hid (hk3.1.trans hBr2.out)
        have hN3:=Lib.hid (hNr2.out.kept hk3)
        clear hk3
        gi_wp2
        exact ⟨⟨pre++[(k,ok)],k,by omega,rfl,HP2,hB3.out,hN3.out,hJ3⟩,by simp [intOf]⟩
      · gi_wp2
        refine bodyPost_ret (results_none rfl _ _ _) rfl ?_
        exact ⟨⟨_,rfl⟩,.inr ⟨pre++[(k,ok)],trivial,hJx3⟩⟩
end Go.Proofs.YtpcniebkabkikaaGreatDoor
