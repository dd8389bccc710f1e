/- function of the parser, its head. -/
import Derived.Test.YtlpdjfimefjmcaaGreatDoorFlOpenPR30
import Derived.Deep.Cut
open Go.Lib (hid)
namespace Go.Proofs.YtlpdjfimefjmcaaGreatDoor.Q
open Go Go.RowKit Go.Proofs.Mm
section
variable (T:Nat→Option Syn.K) (F:Nat) (ns:List (List Nat))
def func5 (s:List Nat) (l:Nat) (ps:List Syn.De) (rs:List Nat) (vs:List Syn.De) (i:Nat):Syn.R Syn.Fn :=
 (Syn.stmtsF T (Syn.stmtD T F 12) (Syn.tx "return") F [] i).on fun b i => (Syn.list T F [59] i).on fun es i => (Syn.want T i [125]).on fun _ i => .ok (⟨s, l, ps, rs, vs, b ++ [⟨9, [], [], es⟩]⟩, i)
def func4 (s:List Nat) (l:Nat) (ps:List Syn.De) (rs:List Nat) (i:Nat):Syn.R Syn.Fn :=
 (Syn.want T i [123]).on fun _ i=>(Syn.varsF T F ns F [] i).on fun vs i=>func5 T F s l ps rs vs i
def func3 (s:List Nat) (l:Nat) (ps:List Syn.De) (i:Nat):Syn.R Syn.Fn:=(Syn.row T F (Syn.label T F ns) i).on fun rs i=>func4 T F ns s l ps rs i
def func2 (s:List Nat) (l:Nat) (i:Nat):Syn.R Syn.Fn:=(Syn.row T F (Syn.decl T F ns) i).on fun ps i=>func3 T F ns s l ps i
theorem func_split (i:Nat):Syn.func T F ns i=(Syn.name T i).on fun s i=>(Syn.label T F ns i).on fun l i=>func2 T F ns s l i:=rfl
end
section
variable {ys:List It} {len bp bw i:Nat} {vp:Value} {w:World} {ns:List (List Nat)} {α:Type}
def bxO (bp:Nat):Obj:=.cells #[.pointer (some ⟨bp,0,none⟩)] 119
def fnC (s:ByteArray) (l:Nat) (a b c d:Value):Obj:=.cells #[.string s,.int .u64 (l:Nat),a,b,c,d] 43
def fnZ0:Obj:=.cells #[.string ⟨#[]⟩,.int .u64 0,.slice none 0 0,.slice none 0 0,.slice none 0 0,.slice none 0 0] 43
structure FnW (ys:List It) (len bp bw:Nat) (vp:Value) (ns:List (List Nat)) (w:World) (o:Obj) (g j:Nat) (W:World):Prop where
 blk:W.heap[g]?=some o
 box:W.heap[w.heap.size]?=some (bxO bp)
 res:W.heap[w.heap.size+1]?=some fnZ0
 far:w.heap.size+2≤g
 ps:PS ys len bp bw vp W j
 nr:NR W vp ns
 chg:Chg (fun k=>k=bp) w W
structure FnB (ys:List It) (len bp bw:Nat) (vp:Value) (ns:List (List Nat)) (w:World) (j:Nat) (W:World):Prop where
 box:W.heap[w.heap.size]?=some (bxO bp)
 res:W.heap[w.heap.size+1]?=some fnZ0
 siz:w.heap.size+2≤W.heap.size
 ps:PS ys len bp bw vp W j
 nr:NR W vp ns
 chg:Chg (fun k=>k=bp) w W
theorem FnB.far {j:Nat} {W:World} (_h:FnB ys len bp bw vp ns w j W) (hb:bp<w.heap.size) (o:Obj):(W.alloc o).heap[W.heap.size]?=some o∧¬W.heap.size=bp:=⟨World.alloc_heap_new W o,by have:=_h.siz;omega⟩
theorem FnB.alloc {j:Nat} {W:World} (h:FnB ys len bp bw vp ns w j W) (o:Obj):FnB ys len bp bw vp ns w j (W.alloc o) :=
 ⟨heap_new _ _ h.box,heap_new _ _ h.res,by rw [World.size_alloc];have:=h.siz;omega,h.ps.alloc o,nr_alloc h.nr o,h.chg.alloc o⟩
theorem FnB.drew {j:Nat} {W:World} (h:FnB ys len bp bw vp ns w j W):FnB ys len bp bw vp ns w j W.drew :=
 ⟨h.box,h.res,h.siz,h.ps.chg (S:=fun _=>False) (Chg.refl _ _).drew id id,nr_chg h.nr ((Chg.refl (fun _=>False) W).drew) (fun _ _ e=>e),h.chg.drew⟩
theorem FnB.next {j j':Nat} {W W':World} (h:FnB ys len bp bw vp ns w j W) (hb:bp<w.heap.size) (hc:Chg (fun k=>k=bp) W W') (hp:PS ys len bp bw vp W' j'):FnB ys len bp bw vp ns w j' W' :=
 ⟨hc.heap h.box (by omega),hc.heap h.res (by omega),by have:=h.siz;have:=hc.size;omega,hp,nr_next h.nr h.ps hc,h.chg.then hc⟩
theorem FnB.at0 {j:Nat} {W:World} (h:FnB ys len bp bw vp ns w j W):W.cell? ⟨w.heap.size,0,none⟩=some (.pointer (some ⟨bp,0,none⟩)):=cell_of h.box rfl
theorem chg_six {S:Nat→Prop} {a w:World} (h:Chg S a w) {g:Nat} (hg:S g∨a.heap.size≤g) (x0 x1 x2 x3 x4 x5:Value) :
 Chg S a ((((((w.setCell ⟨g,0,none⟩ x0).setCell ⟨g,1,none⟩ x1).setCell ⟨g,2,none⟩ x2).setCell ⟨g,3,none⟩ x3).setCell ⟨g,4,none⟩ x4).setCell ⟨g,5,none⟩ x5) :=
 ((chg_four h hg x0 x1 x2 x3).setCell (p:=⟨g,4,none⟩) hg _).setCell (p:=⟨g,5,none⟩) hg _
theorem fn_store {j g:Nat} {W:World} (h:FnB ys len bp bw vp ns w j W) (hg:W.heap[g]?=some fnZ0) (hf:w.heap.size+2≤g) (s:ByteArray) (l:Nat) :
 FnW ys len bp bw vp ns w (fnC s l (.slice none 0 0) (.slice none 0 0) (.slice none 0 0) (.slice none 0 0)) g j ((((((W.setCell ⟨g,0,none⟩ (.string s)).setCell ⟨g,1,none⟩ (.int .u64 (l:Nat))).setCell ⟨g,2,none⟩ (.slice none 0 0)).setCell ⟨g,3,none⟩ (.slice none 0 0)).setCell ⟨g,4,none⟩ (.slice none 0 0)).setCell ⟨g,5,none⟩ (.slice none 0 0)):=by
 have hc:=chg_six (Chg.refl (fun k=>k=g) W) (.inl rfl) (.string s) (.int .u64 (l:Nat)) (.slice none 0 0) (.slice none 0 0) (.slice none 0 0) (.slice none 0 0)
 obtain ⟨x,hx⟩:=h.ps.blk
 obtain ⟨x',hx'⟩:=h.ps.tok
 have hgb:bp≠g:=(blk_ne hg hx (by decide)).symm
 have hgw:bw≠g:=(blk_ne hg hx' (by decide)).symm
 refine ⟨heap_set (heap_set (heap_set (heap_set (heap_set (heap_set hg 0 _) 1 _) 2 _) 3 _) 4 _) 5 _,hc.heap h.box (by omega),hc.heap h.res (by omega),hf,h.ps.chg hc hgb hgw,nr_chg h.nr hc (fun k hk e=>?_),chg_six h.chg (.inr (by omega)) _ _ _ _ _ _⟩
 obtain ⟨cur,hcu⟩:=own_type h.nr.1 hk
 exact blk_ne hg hcu (by decide) e.symm
theorem six_free {W:World} {g:Nat} {arr:Array Value} {T:TypeId} (h:W.heap[g]?=some (.cells arr T (0,0))):W.frozen? ⟨g,0,none⟩=false∧W.frozen? ⟨g,1,none⟩=false∧W.frozen? ⟨g,2,none⟩=false∧W.frozen? ⟨g,3,none⟩=false∧W.frozen? ⟨g,4,none⟩=false∧W.frozen? ⟨g,5,none⟩=false:=⟨free_of h,free_of h,free_of h,free_of h,free_of h,free_of h⟩
theorem six_cells {W:World} {g:Nat} {x0 x1 x2 x3 x4 x5:Value} {T:TypeId} (h:W.heap[g]?=some (.cells #[x0,x1,x2,x3,x4,x5] T (0,0))) :
 W.cell? ⟨g,0,none⟩=some x0∧W.cell? ⟨g,1,none⟩=some x1∧W.cell? ⟨g,2,none⟩=some x2∧W.cell? ⟨g,3,none⟩=some x3∧W.cell? ⟨g,4,none⟩=some x4∧W.cell? ⟨g,5,none⟩=some x5:=⟨cell_of h rfl,cell_of h rfl,cell_of h rfl,cell_of h rfl,cell_of h rfl,cell_of h rfl⟩
theorem FnW.at0 {o:Obj} {g j:Nat} {W:World} (h:FnW ys len bp bw vp ns w o g j W):W.cell? ⟨w.heap.size,0,none⟩=some (.pointer (some ⟨bp,0,none⟩)):=cell_of h.box rfl
theorem fn_new {j:Nat} {W:World} (h:FnB ys len bp bw vp ns w j W) (s:ByteArray) (l:Nat) :
 FnW ys len bp bw vp ns w (fnC s l (.slice none 0 0) (.slice none 0 0) (.slice none 0 0) (.slice none 0 0)) W.heap.size j (W.alloc (fnC s l (.slice none 0 0) (.slice none 0 0) (.slice none 0 0) (.slice none 0 0))):=by
 have h':=h.alloc (fnC s l (.slice none 0 0) (.slice none 0 0) (.slice none 0 0) (.slice none 0 0))
 exact ⟨World.alloc_heap_new W _,h'.box,h'.res,h.siz,h'.ps,h'.nr,h'.chg⟩
def func6 (T:Nat→Option Syn.K) (F:Nat) (s:List Nat) (l:Nat) (ps:List Syn.De) (rs:List Nat) (vs:List Syn.De) (b:List Syn.St) (i:Nat):Syn.R Syn.Fn :=
 (Syn.want T i (Syn.tx "return")).on fun _ i => (Syn.list T F [59] i).on fun es i => (Syn.want T i [125]).on fun _ i => .ok (⟨s, l, ps, rs, vs, b ++ [⟨9, [], [], es⟩]⟩, i)
theorem func5_split (T:Nat→Option Syn.K) (F:Nat) (s:List Nat) (l:Nat) (ps:List Syn.De) (rs:List Nat) (vs:List Syn.De) (i:Nat) :
 func5 T F s l ps rs vs i=(stF T (Syn.stmtD T F 12) F [] i).on fun b i=>func6 T F s l ps rs vs b i:=by
 unfold func5
 rw [stmtsF_split (by decide) (by decide) (by decide) (stmtD_no 12)]
 cases stF T (Syn.stmtD T F 12) F [] i with
 | error e=>rfl
 | ok x =>
  obtain ⟨b,j⟩:=x
  show ((Syn.want T j (Syn.tx "return")).on fun _ j => .ok (b, j)).on _ = func6 T F s l ps rs vs b j
  unfold func6
  cases Syn.want T j (Syn.tx "return") with
  | error e=>rfl
  | ok y=>rfl
theorem mk_return:Mk (bl ⟨#[114,101,116,117,114,110]⟩)=true:=by decide
theorem tx_return : Syn.tx "return" = bl ⟨#[114, 101, 116, 117, 114, 110]⟩ := by decide
theorem FnW.set {arr:Array Value} {g j:Nat} {W:World} (h:FnW ys len bp bw vp ns w (.cells arr 43 (0,0)) g j W) (k:Nat) (v:Value):FnW ys len bp bw vp ns w (.cells (arr.setIfInBounds k v) 43 (0,0)) g j (W.setCell ⟨g,k,none⟩ v):=by
 have hc:=(Chg.refl (fun k=>k=g) W).setCell (p:=⟨g,k,none⟩) (.inl rfl) v
 obtain ⟨x,hx⟩:=h.ps.blk
 obtain ⟨x',hx'⟩:=h.ps.tok
 have hf:=h.far
 refine ⟨heap_set h.blk k v,hc.heap h.box (by omega),hc.heap h.res (by omega),h.far,h.ps.chg hc (blk_ne h.blk hx (by decide)).symm (blk_ne h.blk hx' (by decide)).symm,nr_chg h.nr hc (fun k hk e=>?_),h.chg.setCell (p:=⟨g,k,none⟩) (.inr (by show w.heap.size≤g;omega)) v⟩
 obtain ⟨cur,hcu⟩:=own_type h.nr.1 hk
 exact blk_ne h.blk hcu (by decide) e.symm
theorem FnW.drew {o:Obj} {g j:Nat} {W:World} (h:FnW ys len bp bw vp ns w o g j W):FnW ys len bp bw vp ns w o g j W.drew :=
 ⟨h.blk,h.box,h.res,h.far,h.ps.chg (S:=fun _=>False) (Chg.refl _ _).drew id id,nr_chg h.nr ((Chg.refl (fun _=>False) W).drew) (fun _ _ e=>e),h.chg.drew⟩
theorem FnW.grow {arr:Array Value} {g j n:Nat} {W W':World} {v:Value} {cs:List Value} (h:FnW ys len bp bw vp ns w (.cells arr 43 (0,0)) g j W) (hrow:W.ownsRow 0 47 4 v n cs) (ho:∀k,v.ownBlock=some k→w.heap.size≤k) (hc:Chg (fun k=>v.ownBlock=some k) W W') (hp:PS ys len bp bw vp W' j):FnW ys len bp bw vp ns w (.cells arr 43 (0,0)) g j W' :=
 ⟨hc.heap h.blk (blk_own h.blk hrow (by decide)),hc.heap h.box (blk_own h.box hrow (by decide)),hc.heap h.res (blk_own h.res hrow (by decide)),h.far,hp,nr_chg h.nr hc (fun k hk e=>own_own h.nr.1 hrow (by decide) k hk e),h.chg.trans hc (fun k e=>.inr (ho k e))⟩
theorem one_st (q:Option Addr) (n c:Nat):∀u∈[Value.int .i64 9,.string ⟨#[]⟩,.slice none 0 0,.slice q n c],u.oneCell'=true:=by
 intro u hu
 simp only [List.mem_cons,List.not_mem_nil,or_false] at hu
 rcases hu with rfl|rfl|rfl|rfl <;> rfl
def FnM (m:Mem) (c:List Value) (f:Syn.Fn):Prop:=∃a b d e,c=[.string (sb f.name),.int .u64 (f.level:Nat),a,b,d,e]∧f.level<18446744073709551616 ∧
 (∃cs,RowM m 37 2 a f.params.length cs∧Enc (DeR m) cs f.params)∧(∃cs,RowM m 29 1 b f.results.length cs∧Enc (LaR m) cs f.results) ∧
 (∃cs,RowM m 37 2 d f.vars.length cs∧Enc (DeR m) cs f.vars)∧∃cs,RowM m 47 4 e f.body.length cs∧Enc (StM m) cs f.body
def FOk (ys:List It) (len bp bw:Nat) (vp:Value) (ns:List (List Nat)) (m:Mem) (w:World) (f:Syn.Fn) (j:Nat) (e:Ending) (w':World):Prop :=
 ∃qa na ca qb nb cb qd nd cd qe ne ce m',e=.returned (.agg #[.string (sb f.name),.int .u64 (f.level:Nat),.slice qa na ca,.slice qb nb cb,.slice qd nd cd,.slice qe ne ce]) ∧
  FnM m' [.string (sb f.name),.int .u64 (f.level:Nat),.slice qa na ca,.slice qb nb cb,.slice qd nd cd,.slice qe ne ce] f∧m.More w m'∧Has w' m'∧m' bp=none∧PS ys len bp bw vp w' j∧NR w' vp ns
theorem row_split (T:Nat→Option Syn.K) (F:Nat) (p:Nat→Syn.R α) (i:Nat):Syn.row T F p i=(Syn.want T i [40]).on fun _ i=>ls T F p [41] i:=by
 unfold Syn.row ls
 rw [show Syn.rowF T p=lsF T p [41] from by funext f l i;exact rowF_ls T p f l i]
theorem FnW.next {o:Obj} {g j j':Nat} {W W':World} {arr:Array Value} {T:TypeId} (h:FnW ys len bp bw vp ns w o g j W) (ho:o=.cells arr T (0,0)) (ht:T≠165) (hb:bp<w.heap.size) (hc:Chg (fun k=>k=bp) W W') (hp:PS ys len bp bw vp W' j'):FnW ys len bp bw vp ns w o g j' W':=by
 obtain ⟨x,hx⟩:=h.ps.blk
 have hb1:=h.blk
 rw [ho] at hb1
 refine ⟨?_,hc.heap h.box (by omega),hc.heap h.res (by omega),h.far,hp,nr_next h.nr h.ps hc,h.chg.then hc⟩
 rw [ho]
 exact hc.heap hb1 (blk_ne hb1 hx ht)
section
variable {R:Mem→List Value→α→Prop} {E T:TypeId} {size:Nat} {arr:Value→Array Value} {m m':Mem} {W w0:World} {g j:Nat}
theorem gb_nil (hs:w0.heap.size=w.heap.size+2) (h:FnW ys len bp bw vp ns w (.cells (arr (.slice none 0 0)) T (0,0)) g j W) (hm':Has W m') (hmo:m.More w0 m') (hg:m' g=none) (hb:m' bp=none):GB R E size T arr g w.heap.size bp (w.heap.size+2) vp ns m w0 [] W :=
 ⟨⟨none,0,[],m',h.blk,World.ownsRow_nil _ _ _ _,Enc.nil,hm',hmo,hg,hb,(fun k e=>by cases e),by have:=h.far;have:=heap_lt h.blk;omega,h.nr⟩,h.box⟩
theorem fn_list {W1:World} {j':Nat} {acc:List α} {o:Obj} (hs:w0.heap.size=w.heap.size+2) (hbp:bp<w.heap.size) (h:FnW ys len bp bw vp ns w o g j W) (ht:Tys T E) (hR:∀m m':Mem,m.le m'→∀c x,R m c x→R m' c x) (hc:Chg (SB bp (w.heap.size+2)) W W1) (hb:GB R E size T arr g w.heap.size bp (w.heap.size+2) vp ns m w0 acc W1) (hp:PS ys len bp bw vp W1 j') :
 ∃q c cs m2,FnW ys len bp bw vp ns w (.cells (arr (.slice q acc.length c)) T (0,0)) g j' W1∧m.More w0 m2∧Has W1 m2∧m2 g=none∧m2 bp=none∧RowM m2 E size (.slice q acc.length c) acc.length cs∧Enc (R m2) cs acc:=by
 obtain ⟨q,c,cs,m2,h1,h2,h3,h4,h5,h6,h7,h8,h9⟩:=gj_done hb.1 ht hp (by omega) hR
 refine ⟨q,c,cs,m2,⟨h1,hb.2,hc.heap h.res (fun e=>?_),h.far,hp,h8,h.chg.trans hc (fun k e=>?_)⟩,h2,h3,h4,h5,h6,h7⟩
 ·rcases e with e|e
  ·omega
  ·exact absurd e (by omega)
 ·rcases e with e|e
  ·exact .inl e
  ·exact .inr (by omega)
end
theorem declLP_fitP {T:Nat→Option Syn.K} {n F:Nat} (hN:∀i,n≤i→T i=none) (hF:n<F) (ns:List (List Nat)):Syn.FitP n (declLP T F ns):=fun i hi=>by
 have hd:=Syn.decl_fitP hN hF ns i hi
 refine ⟨hd.1.on fun d j _ hj=>(Syn.want_fit hN [59] hj).on fun _ k _ hk=>Syn.Fit.ok _ hk,fun x j hx=>?_⟩
 unfold declLP at hx
 obtain ⟨d,i1,h1,h2⟩:=Syn.R.on_ok hx
 obtain ⟨u,i2,h3,h4⟩:=Syn.R.on_ok h2
 have:=hd.2 _ _ h1
 unfold Syn.want at h3
 split at h3
 ·injection h3 with h3;injection h3 with _ h3;injection h4 with h4;injection h4 with _ h4;omega
 ·cases h3
theorem varsF_split (T:Nat→Option Syn.K) (F:Nat) (ns:List (List Nat)) (f:Nat) (l:List Syn.De) (i:Nat) :
 Syn.varsF T F ns (f + 1) l i = if Syn.is T i (Syn.tx "var") then (declLP T F ns (i + 1)).on fun d i => Syn.varsF T F ns f (l ++ [d]) i else .ok (l, i) := by
 rw [Syn.varsF]
 unfold declLP
 cases Syn.decl T F ns (i+1) with
 | error e=>rfl
 | ok x =>
  obtain ⟨d,j⟩:=x
  show (if _ then ((Syn.want T j [59]).on fun _ i=>Syn.varsF T F ns f (l++[d]) i) else _)=if _ then (((Syn.want T j [59]).on fun _ i=>.ok (d,i)).on fun d i=>Syn.varsF T F ns f (l++[d]) i) else _
  cases Syn.want T j [59] with
  | error e=>rfl
  | ok y=>rfl
theorem mk_var:Mk (bl ⟨#[118,97,114]⟩)=true:=by decide
theorem tx_var : Syn.tx "var" = bl ⟨#[118, 97, 114]⟩ := by decide
set_option maxRecDepth 100000 in
set_option maxHeartbeats 8000000 in
theorem function_any (hw:Ws ys) (h:PS ys len bp bw vp w i) (hn:NR w vp ns) {m:Mem} (hm:Has w m) (hbm:m bp=none) :
 Calls Tryz.prog 119 #[.pointer (some ⟨bp,0,none⟩)] w (Ret ys len (fun k=>k=bp) w (Syn.func (Tk ys) (ys.length+1) ns i) (FOk ys len bp bw vp ns m w)):=by
 obtain ⟨hlt,hlb⟩:=h.lt
 have hne:¬w.heap.size=bp:=by omega
 have hne1:¬w.heap.size+1=bp:=by omega
 have hmx:Tryz.prog.follows .mixedOrders=true:=by kernel_rfl
 have hbx:=heap_new _ fnZ0 (World.alloc_heap_new w (bxO bp))
 have hrs:=World.alloc_heap_new (w.alloc (bxO bp)) fnZ0
 rw [World.size_alloc] at hrs
 have B0:=hid (show FnB ys len bp bw vp ns w i ((w.alloc (bxO bp)).alloc fnZ0) from ⟨hbx,hrs,by simp,(h.alloc (bxO bp)).alloc fnZ0,nr_alloc (nr_alloc hn (bxO bp)) fnZ0,((Chg.refl (fun k=>k=bp) w).alloc (bxO bp)).alloc fnZ0⟩)
 obtain ⟨RR,hRR⟩:∃RR,Syn.func (Tk ys) (ys.length+1) ns i=RR:=⟨_,rfl⟩
 rw [hRR]
 have HLF:=hid (show Syn.Fit ys.length RR from by rw [←hRR];exact Syn.func_fit (tk_nones ys) (by omega) ns h.le)
 have hfew:=h.few
 rw [func_split] at hRR
 have H0:=hid hRR
 have hvp:=hid (fun k (hk:vp.ownBlock=some k)=>(hn.1.lt k hk).2)
 clear hRR h hn hbx hrs
 go_enter Tryz.func119,Tryz.ntmps119
 go_upto_region 1 with fail
 go_cut [3] from 98 (fun r wx=>∃g s l j,r=.pointer (some ⟨g,0,none⟩)∧l<18446744073709551616∧Hid (func2 (Tk ys) (ys.length+1) ns (bl s) l j=RR)∧Hid (FnW ys len bp bw vp ns w (fnC s l (.slice none 0 0) (.slice none 0 0) (.slice none 0 0) (.slice none 0 0)) g j wx))
 case first =>
  rename_i J0 K0 hJ0 hK0
  change Code.wp _ _ _ _ ((w.alloc (bxO bp)).alloc fnZ0)
  generalize (w.alloc (bxO bp)).alloc fnZ0=W0 at *
  have h1:=fun W (hb:FnB ys len bp bw vp ns w i W)=>name_at hb.ps
  have h2:=fun W j (hb:FnB ys len bp bw vp ns w j W)=>ret_cases (label_any hw hb.ps hb.nr)
  have hB:=B0.out.drew
  have hS0:=hB.at0
  refine wp_region_held_drew (S:=fun w'=>w'.cell? ⟨w.heap.size,0,none⟩=some (.pointer (some ⟨bp,0,none⟩))) hmx hS0 (fun hHeld=>?_)
  refine wpAnyH_take (i:=0) (v:=.pointer (some ⟨bp,0,none⟩)) rfl (by kernel_rfl) (by kernel_rfl) (by kernel_rfl) (fun _ _ _ h=>h) (Or.inl ⟨by rfl,fun w hSw=>by go_simp⟩) (by assumption) ?_
  try simp only [Act.put,List.setIfInBounds_toArray,List.set_cons_zero,List.set_cons_succ,List.getElem_toArray,List.getElem_cons_zero]
  refine wpAnyH_take (i:=2) (v:=.pointer (some ⟨bp,0,none⟩)) rfl (by kernel_rfl) (by kernel_rfl) (by kernel_rfl) (fun _ _ _ h=>h) (Or.inl ⟨by rfl,fun w hSw=>by go_simp⟩) (by assumption) ?_
  try simp only [Act.put,List.setIfInBounds_toArray,List.set_cons_zero,List.set_cons_succ,List.getElem_toArray,List.getElem_cons_zero,List.getElem_cons_succ]
  refine wpAnyH_ready (rs:=[1,5]) (by kernel_rfl) (by simp) ?_
  refine AllReadyH.cons rfl (fun K hK=>?_) (AllReadyH.cons rfl (fun K hK=>?_) AllReadyH.nil)
  ·go_simp
   go_at_call 144
   refine (h1 _ hB).mono ?_
   rintro e w1 ⟨hc1,⟨hr,rfl⟩|⟨hr,rfl,hp1⟩⟩
   ·exact ⟨rfl,ret_err (by rw [←H0.out,hr];rfl) (hB.chg.then hc1)⟩
   have B1:=hB.next hlt hc1 hp1
   have H1:=hid (show (Syn.label (Tk ys) (ys.length+1) ns (i+1)).on (fun l j=>func2 (Tk ys) (ys.length+1) ns (bl (tk ys len i).t) l j)=RR from by rw [←H0.out,hr];rfl)
   refine hK.out _ _ B1.at0 (fun hSn=>?_)
   try simp only [Act.put,List.setIfInBounds_toArray,List.set_cons_zero,List.set_cons_succ,List.getElem_toArray,List.getElem_cons_zero,List.getElem_cons_succ]
   refine wpAnyH_ready (rs:=[3,5]) (by kernel_rfl) (by simp) ?_
   refine AllReadyH.cons rfl (fun K2 hK2=>?_) (AllReadyH.cons rfl (fun K2 hK2=>?_) AllReadyH.nil)
   ·go_simp
    go_at_call 146
    refine (h2 _ _ B1).mono ?_
    rintro e w2 ⟨hc2,⟨er,k,hr2,rfl⟩|⟨l,j,hr2,rfl,hl,hp2,hn2⟩⟩
    ·exact ⟨rfl,ret_err (by rw [←H1.out,hr2];rfl) (B1.chg.then hc2)⟩
    have B2:=B1.next hlt hc2 hp2
    have HE:=hid (show func2 (Tk ys) (ys.length+1) ns (bl (tk ys len i).t) l j=RR from by rw [←H1.out,hr2];rfl)
    refine hK2.out _ _ B2.at0 (fun hSl=>?_)
    try simp only [Act.put,List.setIfInBounds_toArray,List.set_cons_zero,List.set_cons_succ,List.getElem_toArray,List.getElem_cons_zero,List.getElem_cons_succ]
    refine wpAnyH_take (i:=4) (v:=.agg #[.string (tk ys len i).t,.int .u64 (l:Nat),.slice none 0 0,.slice none 0 0,.slice none 0 0,.slice none 0 0]) rfl (by kernel_rfl) (by kernel_rfl) (by kernel_rfl) (fun _ _ _ h=>h) (Or.inl ⟨by rfl,fun w hSw=>by go_simp⟩) (by assumption) ?_
    try simp only [Act.put,List.setIfInBounds_toArray,List.set_cons_zero,List.set_cons_succ,List.getElem_toArray,List.getElem_cons_zero,List.getElem_cons_succ]
    refine wpAnyH_ready (rs:=[5]) (by kernel_rfl) (by simp) ?_
    refine AllReadyH.cons rfl (fun K3 hK3=>?_) AllReadyH.nil
    go_simp
    have B3:=B2.alloc fnZ0
    refine hK3.out _ _ B3.at0 (fun hSa=>?_)
    try simp only [Act.put,List.setIfInBounds_toArray,List.set_cons_zero,List.set_cons_succ,List.getElem_toArray,List.getElem_cons_zero,List.getElem_cons_succ]
    refine wpAnyH_ready (rs:=[6]) (by kernel_rfl) (by simp) ?_
    refine AllReadyH.cons rfl (fun K4 hK4=>?_) AllReadyH.nil
    have HG:=(World.alloc_heap_new w2 fnZ0)
    obtain ⟨q0,q1,q2,q3,q4,q5⟩:=six_cells HG
    obtain ⟨f0,f1,f2,f3,f4,f5⟩:=six_free HG
    have HW:=hid (fn_new B2 (tk ys len i).t l)
    go_simp
    refine hK4.out _ _ HW.out.at0 (fun hSz=>?_)
    refine wpAnyH_done (by kernel_rfl) ?_ _
    refine hK0 _ _ ?_
    go_meet
    exact ⟨_,_,_,_,rfl,hl,HE,HW⟩
   ·go_simp
    have B2:=B1.alloc fnZ0
    refine hK2.out _ _ B2.at0 (fun hSa=>?_)
    try simp only [Act.put,List.setIfInBounds_toArray,List.set_cons_zero,List.set_cons_succ,List.getElem_toArray,List.getElem_cons_zero,List.getElem_cons_succ]
    refine wpAnyH_ready (rs:=[3]) (by kernel_rfl) (by simp) ?_
    refine AllReadyH.cons rfl (fun K3 hK3=>?_) AllReadyH.nil
    go_simp
    go_at_call 146
    refine (h2 _ _ B2).mono ?_
    rintro e w2 ⟨hc2,⟨er,k,hr2,rfl⟩|⟨l,j,hr2,rfl,hl,hp2,hn2⟩⟩
    ·exact ⟨rfl,ret_err (by rw [←H1.out,hr2];rfl) (B2.chg.then hc2)⟩
    have B3:=B2.next hlt hc2 hp2
    have HE:=hid (show func2 (Tk ys) (ys.length+1) ns (bl (tk ys len i).t) l j=RR from by rw [←H1.out,hr2];rfl)
    refine hK3.out _ _ B3.at0 (fun hSl=>?_)
    try simp only [Act.put,List.setIfInBounds_toArray,List.set_cons_zero,List.set_cons_succ,List.getElem_toArray,List.getElem_cons_zero,List.getElem_cons_succ]
    refine wpAnyH_take (i:=4) (v:=.agg #[.string (tk ys len i).t,.int .u64 (l:Nat),.slice none 0 0,.slice none 0 0,.slice none 0 0,.slice none 0 0]) rfl (by kernel_rfl) (by kernel_rfl) (by kernel_rfl) (fun _ _ _ h=>h) (Or.inl ⟨by rfl,fun w hSw=>by go_simp⟩) (by assumption) ?_
    try simp only [Act.put,List.setIfInBounds_toArray,List.set_cons_zero,List.set_cons_succ,List.getElem_toArray,List.getElem_cons_zero,List.getElem_cons_succ]
    refine wpAnyH_ready (rs:=[6]) (by kernel_rfl) (by simp) ?_
    refine AllReadyH.cons rfl (fun K4 hK4=>?_) AllReadyH.nil
    have HG:=(hc2.heap (World.alloc_heap_new w1 fnZ0) (B1.far hlt fnZ0).2)
    obtain ⟨q0,q1,q2,q3,q4,q5⟩:=six_cells HG
    obtain ⟨f0,f1,f2,f3,f4,f5⟩:=six_free HG
    have HW:=hid (fn_store B3 HG B1.siz (tk ys len i).t l)
    go_simp
    refine hK4.out _ _ HW.out.at0 (fun hSz=>?_)
    refine wpAnyH_done (by kernel_rfl) ?_ _
    refine hK0 _ _ ?_
    go_meet
    exact ⟨_,_,_,_,rfl,hl,HE,HW⟩
  ·go_simp
   have B1:=hB.alloc fnZ0
   refine hK.out _ _ B1.at0 (fun hSa=>?_)
   try simp only [Act.put,List.setIfInBounds_toArray,List.set_cons_zero,List.set_cons_succ,List.getElem_toArray,List.getElem_cons_zero,List.getElem_cons_succ]
   refine wpAnyH_ready (rs:=[1]) (by kernel_rfl) (by simp) ?_
   refine AllReadyH.cons rfl (fun K2 hK2=>?_) AllReadyH.nil
   go_simp
   go_at_call 144
   refine (h1 _ B1).mono ?_
   rintro e w1 ⟨hc1,⟨hr,rfl⟩|⟨hr,rfl,hp1⟩⟩
   ·exact ⟨rfl,ret_err (by rw [←H0.out,hr];rfl) (B1.chg.then hc1)⟩
   have B2:=B1.next hlt hc1 hp1
   have H1:=hid (show (Syn.label (Tk ys) (ys.length+1) ns (i+1)).on (fun l j=>func2 (Tk ys) (ys.length+1) ns (bl (tk ys len i).t) l j)=RR from by rw [←H0.out,hr];rfl)
   refine hK2.out _ _ B2.at0 (fun hSn=>?_)
   try simp only [Act.put,List.setIfInBounds_toArray,List.set_cons_zero,List.set_cons_succ,List.getElem_toArray,List.getElem_cons_zero,List.getElem_cons_succ]
   refine wpAnyH_ready (rs:=[3]) (by kernel_rfl) (by simp) ?_
   refine AllReadyH.cons rfl (fun K3 hK3=>?_) AllReadyH.nil
   go_simp
   go_at_call 146
   refine (h2 _ _ B2).mono ?_
   rintro e w2 ⟨hc2,⟨er,k,hr2,rfl⟩|⟨l,j,hr2,rfl,hl,hp2,hn2⟩⟩
   ·exact ⟨rfl,ret_err (by rw [←H1.out,hr2];rfl) (B2.chg.then hc2)⟩
   have B3:=B2.next hlt hc2 hp2
   have HE:=hid (show func2 (Tk ys) (ys.length+1) ns (bl (tk ys len i).t) l j=RR from by rw [←H1.out,hr2];rfl)
   refine hK3.out _ _ B3.at0 (fun hSl=>?_)
   try simp only [Act.put,List.setIfInBounds_toArray,List.set_cons_zero,List.set_cons_succ,List.getElem_toArray,List.getElem_cons_zero,List.getElem_cons_succ]
   refine wpAnyH_take (i:=4) (v:=.agg #[.string (tk ys len i).t,.int .u64 (l:Nat),.slice none 0 0,.slice none 0 0,.slice none 0 0,.slice none 0 0]) rfl (by kernel_rfl) (by kernel_rfl) (by kernel_rfl) (fun _ _ _ h=>h) (Or.inl ⟨by rfl,fun w hSw=>by go_simp⟩) (by assumption) ?_
   try simp only [Act.put,List.setIfInBounds_toArray,List.set_cons_zero,List.set_cons_succ,List.getElem_toArray,List.getElem_cons_zero,List.getElem_cons_succ]
   refine wpAnyH_ready (rs:=[6]) (by kernel_rfl) (by simp) ?_
   refine AllReadyH.cons rfl (fun K4 hK4=>?_) AllReadyH.nil
   have HG:w2.heap[W0.heap.size]?=some fnZ0:=(hc2.heap (hc1.heap (World.alloc_heap_new W0.drew fnZ0) (hB.far hlt fnZ0).2) (hB.far hlt fnZ0).2)
   obtain ⟨q0,q1,q2,q3,q4,q5⟩:=six_cells HG
   obtain ⟨f0,f1,f2,f3,f4,f5⟩:=six_free HG
   have HW:=hid (fn_store B3 HG hB.siz (tk ys len i).t l)
   go_simp
   refine hK4.out _ _ HW.out.at0 (fun hSz=>?_)
   refine wpAnyH_done (by kernel_rfl) ?_ _
   refine hK0 _ _ ?_
   go_meet
   exact ⟨_,_,_,_,rfl,hl,HE,HW⟩
 case rest =>
  obtain ⟨g,s1,l1,j1,rfl,hl1,HE1,HW1⟩:=hcut
  obtain ⟨w0,hw0⟩:∃w0:World,w0.heap.size=w.heap.size+2:=⟨(w.alloc (bxO bp)).alloc fnZ0,by simp⟩
  have HE1:=hid (show (Syn.row (Tk ys) (ys.length+1) (Syn.decl (Tk ys) (ys.length+1) ns) j1).on (fun ps i=>func3 (Tk ys) (ys.length+1) ns (bl s1) l1 ps i)=RR from HE1.out)
  have k1:=HW1.out.at0
  clear B0 H0
  go_wp2_with fail
  go_at_call 143
  refine (want_at hw HW1.out.ps ⟨#[40]⟩ mk_40).mono ?_
  rintro e w2 ⟨hc2,⟨hr,rfl⟩|⟨hr,rfl,hp2⟩⟩
  ·exact ⟨rfl,ret_err (by rw [←HE1.out,row_split,show ([40]:List Nat)=bl ⟨#[40]⟩ from rfl,hr];rfl) (HW1.out.chg.then hc2)⟩
  have HW2:=hid (HW1.out.next rfl (by decide) hlt hc2 hp2)
  have HE2:=hid (show (ls (Tk ys) (ys.length+1) (Syn.decl (Tk ys) (ys.length+1) ns) [41] (j1+1)).on (fun ps i=>func3 (Tk ys) (ys.length+1) ns (bl s1) l1 ps i)=RR from by rw [←HE1.out,row_split,show ([40]:List Nat)=bl ⟨#[40]⟩ from rfl,hr];rfl)
  have hfar:=HW1.out.far
  have hlist:=ret_cases (list_any (len:=len) (bp:=bp) (bw:=bw) (vp:=vp) hw HW2.out.ps (B:=w.heap.size+2) (by have:=heap_lt HW2.out.blk;omega) (by omega) (by omega) ⟨#[41]⟩ mk_41 (by decide) (K:=148) (caps:=#[.pointer (some ⟨g,0,none⟩),.pointer (some ⟨w.heap.size,0,none⟩)]) (enters_of Tryz.func148 (by kernel_rfl) rfl)
   (J:=GB DeR 37 2 43 (fun v=>#[.string s1,.int .u64 (l1:Nat),v,.slice none 0 0,.slice none 0 0,.slice none 0 0]) g w.heap.size bp (w.heap.size+2) vp ns m w0)
   (Syn.decl_fitP (tk_nones ys) (by omega) ns) (fun l W i W' hJ hp hc=>hJ.next tys_de hp hc) (function1_any hw hfar) (gb_nil hw0 HW2.out (hm.chg HW2.out.chg (fun k e=>by subst e;exact hbm)) (Mem.More.refl _ _) (hm.lt (by omega)) hbm))
  have k2:=HW2.out.at0
  clear hc2 hr hp2 k1
  go_wp2_with fail
  go_at_call 147
  refine hlist.mono ?_
  rintro e w3 ⟨hc3,⟨er,k,hr,rfl⟩|⟨ps,j3,hr,⟨rfl,hJ⟩,hp3⟩⟩
  ·exact ⟨rfl,ret_err (by rw [←HE2.out,show ([41]:List Nat)=bl ⟨#[41]⟩ from rfl,hr];rfl) (HW2.out.chg.trans hc3 (fun k e=>by rcases e with e|e;exact .inl e;exact .inr (by omega)))⟩
  obtain ⟨q3,c3,cs3,m3,hw3,hmo3,hh3,hg3,hb3,hR3,hE3⟩:=fn_list hw0 hlt HW2.out tys_de DeR.le hc3 hJ hp3
  have HW3:=hid hw3
  have HM3:=hid (And.intro hmo3 (And.intro hh3 (And.intro hg3 (And.intro hb3 (And.intro hR3 hE3)))))
  have HE3:=hid (show func3 (Tk ys) (ys.length+1) ns (bl s1) l1 ps j3=RR from by rw [←HE2.out,show ([41]:List Nat)=bl ⟨#[41]⟩ from rfl,hr];rfl)
  clear hw3 hmo3 hh3 hg3 hb3 hR3 hE3 hc3 hr hJ hp3 hlist k2 HE2 HW2 HE1
  have k3:=HW3.out.at0
  have HE3:=hid (show (Syn.row (Tk ys) (ys.length+1) (Syn.label (Tk ys) (ys.length+1) ns) j3).on (fun rs i=>func4 (Tk ys) (ys.length+1) ns (bl s1) l1 ps rs i)=RR from HE3.out)
  go_wp2_with fail
  go_at_call 143
  refine (want_at hw HW3.out.ps ⟨#[40]⟩ mk_40).mono ?_
  rintro e w4 ⟨hc4,⟨hr,rfl⟩|⟨hr,rfl,hp4⟩⟩
  ·exact ⟨rfl,ret_err (by rw [←HE3.out,row_split,show ([40]:List Nat)=bl ⟨#[40]⟩ from rfl,hr];rfl) (HW3.out.chg.then hc4)⟩
  have HW4:=hid (HW3.out.next rfl (by decide) hlt hc4 hp4)
  have HE4:=hid (show (ls (Tk ys) (ys.length+1) (Syn.label (Tk ys) (ys.length+1) ns) [41] (j3+1)).on (fun rs i=>func4 (Tk ys) (ys.length+1) ns (bl s1) l1 ps rs i)=RR from by rw [←HE3.out,row_split,show ([40]:List Nat)=bl ⟨#[40]⟩ from rfl,hr];rfl)
  have hlist:=ret_cases (list_any (len:=len) (bp:=bp) (bw:=bw) (vp:=vp) hw HW4.out.ps (B:=w.heap.size+2) (by have:=heap_lt HW4.out.blk;omega) (by omega) (by omega) ⟨#[41]⟩ mk_41 (by decide) (K:=149) (caps:=#[.pointer (some ⟨g,0,none⟩),.pointer (some ⟨w.heap.size,0,none⟩)]) (enters_of Tryz.func149 (by kernel_rfl) rfl)
   (J:=GB LaR 29 1 43 (fun v=>#[.string s1,.int .u64 (l1:Nat),.slice q3 ps.length c3,v,.slice none 0 0,.slice none 0 0]) g w.heap.size bp (w.heap.size+2) vp ns m3 w0)
   (Syn.label_fitP (tk_nones ys) (by omega) ns) (fun l W i W' hJ hp hc=>hJ.next tys_la hp hc) (function2_any hw hfar) (gb_nil hw0 HW4.out (HM3.out.2.1.chg hc4 (fun k e=>by subst e;exact HM3.out.2.2.2.1)) (Mem.More.refl _ _) HM3.out.2.2.1 HM3.out.2.2.2.1))
  have k4:=HW4.out.at0
  clear hc4 hr hp4 k3
  go_wp2_with fail
  go_at_call 147
  refine hlist.mono ?_
  rintro e w5 ⟨hc5,⟨er,k,hr,rfl⟩|⟨rs,j5,hr,⟨rfl,hJ⟩,hp5⟩⟩
  ·exact ⟨rfl,ret_err (by rw [←HE4.out,show ([41]:List Nat)=bl ⟨#[41]⟩ from rfl,hr];rfl) (HW4.out.chg.trans hc5 (fun k e=>by rcases e with e|e;exact .inl e;exact .inr (by omega)))⟩
  obtain ⟨q5,c5,cs5,m5,hw5,hmo5,hh5,hg5,hb5,hR5,hE5⟩:=fn_list hw0 hlt HW4.out tys_la LaR.le hc5 hJ hp5
  have HW5:=hid hw5
  have HM5:=hid (And.intro (HM3.out.1.trans hmo5 (Nat.le_refl _)) (And.intro hh5 (And.intro hg5 (And.intro hb5 (And.intro (And.intro (HM3.out.2.2.2.2.1.le hmo5.le) (HM3.out.2.2.2.2.2.mono (DeR.le _ _ hmo5.le))) (And.intro hR5 hE5))))))
  have HE5:=hid (show (Syn.want (Tk ys) j5 [123]).on (fun _ i=>(Syn.varsF (Tk ys) (ys.length+1) ns (ys.length+1) [] i).on fun vs i=>func5 (Tk ys) (ys.length+1) (bl s1) l1 ps rs vs i)=RR from by rw [←HE4.out,show ([41]:List Nat)=bl ⟨#[41]⟩ from rfl,hr];rfl)
  clear hw5 hmo5 hh5 hg5 hb5 hR5 hE5 hc5 hr hJ hp5 hlist k4 HE4 HW4 HE3 HW3 HM3
  have k5:=HW5.out.at0
  go_wp2_with fail
  go_at_call 143
  refine (want_at hw HW5.out.ps ⟨#[123]⟩ mk_123').mono ?_
  rintro e w6 ⟨hc6,⟨hr,rfl⟩|⟨hr,rfl,hp6⟩⟩
  ·exact ⟨rfl,ret_err (by rw [←HE5.out,show ([123]:List Nat)=bl ⟨#[123]⟩ from rfl,hr];rfl) (HW5.out.chg.then hc6)⟩
  have HW6:=hid (HW5.out.next rfl (by decide) hlt hc6 hp6)
  have HE6:=hid (show (Syn.varsF (Tk ys) (ys.length+1) ns (ys.length+1) [] (j5+1)).on (fun vs i=>func5 (Tk ys) (ys.length+1) (bl s1) l1 ps rs vs i)=RR from by rw [←HE5.out,show ([123]:List Nat)=bl ⟨#[123]⟩ from rfl,hr];rfl)
  have HH6:=hid (HM5.out.2.1.chg hc6 (fun k e=>by subst e;exact HM5.out.2.2.2.1))
  have k6:=HW6.out.at0
  clear hc6 hr hp6 k5 HE5 HW5
  go_wp2_with fail
  go_loopw [22] (fun _ wr=>∃f l j,Hid ((Syn.varsF (Tk ys) (ys.length+1) ns f l j).on (fun vs i=>func5 (Tk ys) (ys.length+1) (bl s1) l1 ps rs vs i)=RR) ∧
   Hid (GB DeR 37 2 43 (fun v=>#[.string s1,.int .u64 (l1:Nat),.slice q3 ps.length c3,.slice q5 rs.length c5,v,.slice none 0 0]) g w.heap.size bp (w.heap.size+2) vp ns m5 w0 l wr) ∧
   Hid (PS ys len bp bw vp wr j)∧Hid (wr.heap[w.heap.size+1]?=some fnZ0)∧Hid (Chg (fun k=>k=bp) w wr)∧Hid (l.length+(ys.length - j)≤131072))
   (fun _ wr=>posW bp wr)
  case atStart=>exact ⟨ys.length+1,[],j5+1,HE6,hid (gb_nil hw0 HW6.out HH6.out (Mem.More.refl _ _) HM5.out.2.2.1 HM5.out.2.2.2.1),hid HW6.out.ps,hid HW6.out.res,hid HW6.out.chg,hid (by simp;omega)⟩
  case round =>
   obtain ⟨f,l,j,HF,HG,HPr,HRr,HCr,HLr⟩:=hrel
   have kb:wr.cell? ⟨w.heap.size,0,none⟩=some (.pointer (some ⟨bp,0,none⟩)):=cell_of HG.out.2 rfl
   clear k6
   have hsk:=skip_at hw HPr.out ⟨#[118,97,114]⟩ mk_var
   cases f with
   | zero=>exact (HLF.out.no99 (j:=j) (by rw [←HF.out];rfl)).elim
   | succ f =>
    cases hx:Syn.is (Tk ys) j (bl ⟨#[118,97,114]⟩) with
    | true =>
     rw [hx] at hsk
     have HF2:=hid (show ((declLP (Tk ys) (ys.length+1) ns (j+1)).on fun d i=>Syn.varsF (Tk ys) (ys.length+1) ns f (l++[d]) i).on (fun vs i=>func5 (Tk ys) (ys.length+1) (bl s1) l1 ps rs vs i)=RR from by
      rw [←HF.out,varsF_split,tx_var,hx,if_pos rfl])
     have hltj:=lt_of_is hx
     clear hx
     go_wp2_with (go_at_call 115;refine hsk.mono ?_;rintro e w7 ⟨t7,rfl,rfl,hc7,hp7⟩)
     rw [if_pos trivial] at hp7
     have hc7':Chg (fun k=>k=bp) w w7:=HCr.out.then hc7
     have HR7:=hid (hc7.heap HRr.out (by omega))
     obtain ⟨⟨q,c,cs,m',h1,h2,h3,h4,h5,h6,h7,h8,h9,h10⟩,hbx⟩:=HG.out.next tys_de HPr.out hc7
     have HC7:=hid hc7'
     have hlen:=HLr.out
     have hsz7:=hc7'.size
     have HPOS:=hid HPr.out.pos
     clear hc7 hc7' hsk HF HG kb HCr HRr
     obtain ⟨j0,hj0,hy0,hy1,hy2⟩:=infoDe
     obtain ⟨xp,hxp⟩:=hp7.blk
     have hnb:¬g=bp:=blk_ne h1 hxp tys_de.tp
     have hnb1:¬w.heap.size=bp:=hne
     have hc1:=cell_of (j:=4) h1 rfl
     have hc2:=cell_of (j:=0) hbx rfl
     have hlt1:=heap_lt h1
     have hlt2:=heap_lt hbx
     have hpd:PS ys len bp bw vp w7.drew (j+1):=hp7.chg (S:=fun _=>False) (Chg.refl _ _).drew id id
     have hnd:NR w7.drew vp ns:=nr_chg h10 ((Chg.refl (fun _=>False) w7).drew) (fun _ _ e=>e)
     have HE:=hid (declLine_any hw hpd hnd)
     cases hri:declLP (Tk ys) (ys.length+1) ns (j+1) with
     | error q0 =>
      obtain ⟨er,k⟩:=q0
      have HRI:=hid hri
      clear hri
      have hS0:w7.drew.cell? ⟨g,4,none⟩=some (.slice q l.length c)∧w7.drew.cell? ⟨w.heap.size,0,none⟩=some (.pointer (some ⟨bp,0,none⟩)):=⟨hc1,hc2⟩
      refine wp_region_held_drew (S:=fun w'=>w'.cell? ⟨g,4,none⟩=some (.slice q l.length c)∧w'.cell? ⟨w.heap.size,0,none⟩=some (.pointer (some ⟨bp,0,none⟩))) hmx hS0 (fun hHeld=>?_)
      refine wpAnyH_take (i:=0) (v:=.pointer (some ⟨g,4,none⟩)) rfl (by kernel_rfl) (by kernel_rfl) (by kernel_rfl) (fun _ _ _ h=>h) (Or.inl ⟨by rfl,fun w hSw=>by obtain ⟨s1,s2⟩:=hSw;go_simp⟩) (by assumption) ?_
      try simp only [Act.put,List.setIfInBounds_toArray,List.set_cons_zero,List.set_cons_succ,List.getElem_toArray,List.getElem_cons_zero]
      refine wpAnyH_take (i:=1) (v:=.slice q l.length c) rfl (by kernel_rfl) (by kernel_rfl) (by kernel_rfl) (fun _ _ _ h=>h) (Or.inl ⟨by rfl,fun w hSw=>by obtain ⟨s1,s2⟩:=hSw;go_simp⟩) (by assumption) ?_
      try simp only [Act.put,List.setIfInBounds_toArray,List.set_cons_zero,List.set_cons_succ,List.getElem_toArray,List.getElem_cons_zero,List.getElem_cons_succ]
      refine wpAnyH_take (i:=2) (v:=.pointer (some ⟨bp,0,none⟩)) rfl (by kernel_rfl) (by kernel_rfl) (by kernel_rfl) (fun _ _ _ h=>h) (Or.inl ⟨by rfl,fun w hSw=>by obtain ⟨s1,s2⟩:=hSw;go_simp⟩) (by assumption) ?_
      try simp only [Act.put,List.setIfInBounds_toArray,List.set_cons_zero,List.set_cons_succ,List.getElem_toArray,List.getElem_cons_zero,List.getElem_cons_succ]
      refine wpAnyH_ready (rs:=[3]) (by kernel_rfl) (by simp) ?_
      refine AllReadyH.cons rfl (fun K hK=>?_) AllReadyH.nil
      go_simp
      go_at_call 117
      refine HE.out.mono ?_
      rw [HRI.out]
      rintro e w' ⟨hcc,rfl⟩
      exact ⟨rfl,ret_err (by rw [←HF2.out,HRI.out];rfl) (HC7.out.drew.then hcc)⟩
     | ok q0 =>
      obtain ⟨x,j8⟩:=q0
      have HRI:=hid hri
      have hj8:=(declLP_fitP (tk_nones ys) (F:=ys.length+1) (by omega) ns (j+1) hltj).2 _ _ hri
      have hj8':=(declLP_fitP (tk_nones ys) (F:=ys.length+1) (by omega) ns (j+1) hltj).1.pos hri
      clear hri
      have h1d:w7.drew.heap[g]?=some (.cells #[.string s1,.int .u64 (l1:Nat),.slice q3 ps.length c3,.slice q5 rs.length c5,.slice q l.length c,.slice none 0 0] 43 (0,0)):=h1
      have hbxd:w7.drew.heap[w.heap.size]?=some (.cells #[.pointer (some ⟨bp,0,none⟩)] 119 (0,0)):=hbx
      have h2d:w7.drew.ownsRow (w.heap.size+2) 37 2 (.slice q l.length c) l.length cs:=h2
      obtain ⟨xt,hxt⟩:=hpd.blk
      have HROW:=hid (fun w1 (hc:Chg (fun k=>k=bp) w7.drew w1)=>own_chg h2d hc (fun k hk e=>by subst e;exact blk_own hxt h2d tys_de.ep.symm hk))
      have HAPP:=hid (fun w1 w9 (o:Obj) (hc:Chg (fun k=>k=bp) w7.drew w1) (hg:(w1.alloc o).grownBy w9 (Value.ownBlock (.slice q l.length c))) =>
       And.intro (gj_mid h2d hc hg h1d tys_de.te hnb) (gj_mid h2d hc hg hbxd (by decide) hnb1))
      have hlb3:l.length≤131072:=by omega
      go_region_law
       (first
        | (go_simp;go_at_call 117;refine HE.out.mono ?_;rw [HRI.out];rintro e w1 ⟨hcc,rfl,a1,a2,a3⟩;have k1:=hcc.cell (show w7.drew.cell? ⟨g,4,none⟩=_ from hc1) hnb;have k2:=hcc.cell (show w7.drew.cell? ⟨w.heap.size,0,none⟩=_ from hc2) hnb1;have p1:=hcc.heap h1d hnb;have p2:=hcc.heap hbxd hnb1;have k3:=free_of (j:=4) p1;have kk:=And.intro (cell_of (j:=4) (heap_new _ (.cells #[.string (sb x.name),.int .u64 (x.label:Nat)] 37) p1) rfl) (And.intro (cell_of (j:=0) (heap_new _ (.cells #[.string (sb x.name),.int .u64 (x.label:Nat)] 37) p2) rfl) (free_of (j:=4) (heap_new _ (.cells #[.string (sb x.name),.int .u64 (x.label:Nat)] 37) p1))))
        | (refine step_append_mine rfl (.tmp 24) (.tmp 27) 23 rfl (w.heap.size+2) 37 j0 (.agg #[.string ⟨#[]⟩,.int .u64 0]) 2 24 Tryz.underlying23 hj0 hy0 hy1 hy2 rfl (by decide) (.slice q l.length c) l.length cs (by simp [Act.eval]) ((HROW.out _ hcc).alloc _) ⟨_,0,none⟩ 1 1 [.string (sb x.name),.int .u64 (x.label:Nat)] (by simp [Act.eval]) rfl (row_new _ [.string (sb x.name),.int .u64 (x.label:Nat)] 37) (one_de _ _) (by unfold maxLen;omega) (by omega) (by have:=hcc.size;simp at this;have:=heap_lt p1;simp;omega) ?_;intro v9 w9 hown9 hgrow9 hat9;obtain ⟨q9,c9,rfl⟩:=own_shape hown9;obtain ⟨g1,g2⟩:=HAPP.out _ _ _ hcc hgrow9;have k4:=cell_of (j:=4) g1 rfl;have k5:=cell_of (j:=0) g2 rfl;have k6:=free_of (j:=4) g1))
      all_goals
       have hcw:Chg (fun k=>k=bp) w7 w1:=((Chg.refl _ w7).drew).then hcc
       have HEND:=hid (gj_end (arr:=fun v=>#[.string s1,.int .u64 (l1:Nat),.slice q3 ps.length c3,.slice q5 rs.length c5,v,.slice none 0 0]) (kf:=4) tys_de (fun _ _=>rfl) hp7 h1 h2 h3 h4 h5 h6 h7 h8 h9 DeR.le hcw (Mem.More.refl _ _) (h4.chg hcw (fun k e=>by subst e;exact h7)) (show DeR m' _ x from ⟨rfl,a1⟩) a2 a3 hown9 hgrow9 (by simpa using hat9))
       go_wp2_with fail
       refine ⟨⟨f,l++[x],j8,hid (by rw [←HF2.out,HRI.out];rfl),hid ⟨HEND.out.2.1,HEND.out.1.heap hbx (fun e=>?_)⟩,hid HEND.out.2.2,hid (HEND.out.1.heap HR7.out (fun e=>?_)),hid (HC7.out.trans HEND.out.1 (fun k e=>?_)),hid ?_⟩,?_⟩
       ·rcases e with e|e|e
        ·exact hnb1 e
        ·omega
        ·exact blk_own hbx h2 (by decide) e
       ·rcases e with e|e|e
        ·exact hne1 e
        ·omega
        ·exact blk_own HR7.out h2 (by decide) e
       ·rcases e with e|e|e
        ·exact .inl e
        ·exact .inr (by omega)
        ·exact .inr (by have:=(h2.lt k e).1;omega)
       ·rw [List.length_append,List.length_singleton];omega
       ·rw [HEND.out.2.2.pos,HPOS.out];omega
    | false =>
     rw [hx] at hsk
     have HF2:=hid (show func5 (Tk ys) (ys.length+1) (bl s1) l1 ps rs l j=RR from by rw [←HF.out,varsF_split,tx_var,hx,if_neg (by simp)];rfl)
     clear hx
     go_wp2_with fail
     go_at_call 115
     refine hsk.mono ?_
     rintro e w7 ⟨t7,rfl,rfl,hc7,hp7⟩
     rw [if_neg (by simp)] at hp7
     have hG7:=HG.out.next tys_de HPr.out hc7
     obtain ⟨q7,c7,cs7,m7,g1,g2,g3,g4,g5,g6,g7,g8,g9⟩:=gj_done hG7.1 tys_de hp7 (by omega) DeR.le
     have HW7:=hid (show FnW ys len bp bw vp ns w (.cells #[.string s1,.int .u64 (l1:Nat),.slice q3 ps.length c3,.slice q5 rs.length c5,.slice q7 l.length c7,.slice none 0 0] 43 (0,0)) g j w7 from
      ⟨g1,hG7.2,hc7.heap HRr.out (by omega),hfar,hp7,g8,HCr.out.then hc7⟩)
     have HM7:=hid (And.intro (HM5.out.1.trans g2 (Nat.le_refl _)) (And.intro g3 (And.intro g4 (And.intro g5 (And.intro (And.intro (HM5.out.2.2.2.2.1.1.le g2.le) (HM5.out.2.2.2.2.1.2.mono (DeR.le _ _ g2.le))) (And.intro (And.intro (HM5.out.2.2.2.2.2.1.le g2.le) (HM5.out.2.2.2.2.2.2.mono (LaR.le _ _ g2.le))) (And.intro g6 g7)))))))
     have hst:=ret_cases (stmts_all hw 12 (Nat.le_refl _) w7 j (.slice none 0 0) [] m7 hp7 g3 g5 ⟨[],World.ownsRow_nil _ _ _ _,Enc.nil⟩ (fun k e=>by cases e) (by simp;have:=hp7.le;omega))
     have k7:=HW7.out.at0
     clear hc7 hsk HF HG kb HCr HRr hG7 g1 g2 g3 g4 g5 g6 g7 g8 g9 hp7 HM5 HPr HLr
     go_wp2_with fail
     go_at_call 150
     refine hst.mono ?_
     rintro e w8 ⟨hc8,⟨er,k,hr,rfl⟩|⟨b,j8,hr,v8,m8,rfl,a1,a2,a3,a4,a5,a6,a7⟩⟩
     ·exact ⟨rfl,ret_err (by rw [←HF2.out,func5_split,hr];rfl) (HW7.out.chg.then (hc8.mono (fun k e=>by rcases e with e|e;exact .inl e;cases e)))⟩
     have hcnt:=stF_cnt (stmtD_cnt 12) _ _ _ _ _ hr
     simp only [List.length_nil] at hcnt
     rw [List.nil_append] at a4
     obtain ⟨q8,c8,rfl⟩:=br_shape a4
     have hc8':Chg (fun k=>k=bp) w7 w8:=hc8.mono (fun k e=>by rcases e with e|e;exact .inl e;cases e)
     have hW8:=HW7.out.next rfl (by decide) hlt hc8' a7
     have HF8:=hid (show func6 (Tk ys) (ys.length+1) (bl s1) l1 ps rs l b j8=RR from by rw [←HF2.out,func5_split,hr];rfl)
     have hle8:=a7.le
     have hg8:m8 g=none:=a1.new g HM7.out.2.2.1 (heap_lt HW7.out.blk)
     have HB8:=hid (show BR (w8.setCell ⟨g,5,none⟩ (.slice q8 b.length c8)) m8 (.slice q8 b.length c8) b from br_chg a4 ((Chg.refl (fun k=>k=g) w8).setCell (p:=⟨g,5,none⟩) (.inl rfl) (.slice q8 b.length c8)) (fun k hk e=>by
      subst e
      obtain ⟨cs,hcs,_⟩:=a4
      exact blk_own hW8.blk hcs (by decide) hk))
     have HH8:=hid (show Has (w8.setCell ⟨g,5,none⟩ (.slice q8 b.length c8)) m8 from a2.chg ((Chg.refl (fun k=>k=g) w8).setCell (p:=⟨g,5,none⟩) (.inl rfl) (.slice q8 b.length c8)) (fun k e=>by subst e;exact hg8))
     have HM8:=hid (And.intro (HM7.out.1.trans a1 (by have:=heap_lt HW7.out.blk;omega)) (And.intro hg8 (And.intro a3 (And.intro (And.intro (HM7.out.2.2.2.2.1.1.le a1.le) (HM7.out.2.2.2.2.1.2.mono (DeR.le _ _ a1.le))) (And.intro (And.intro (HM7.out.2.2.2.2.2.1.1.le a1.le) (HM7.out.2.2.2.2.2.1.2.mono (LaR.le _ _ a1.le))) (And.intro (HM7.out.2.2.2.2.2.2.1.le a1.le) (HM7.out.2.2.2.2.2.2.2.mono (DeR.le _ _ a1.le))))))))
     have HO8:=hid a5
     have HA8:=hid (fun k hk=>(a6 k hk).resolve_left (by intro e;cases e))
     have HW9:=hid (hW8.set 5 (.slice q8 b.length c8))
     have f5:=free_of (j:=5) hW8.blk
     have k8:=cell_of (j:=5) hW8.blk rfl
     have k9:=HW9.out.at0
     have hs7:w.heap.size+2≤w7.heap.size:=by have:=heap_lt HW7.out.blk;omega
     clear hc8 hc8' hst hr a1 a2 a3 a4 a5 a6 a7 HW7 HM7 HF2 k7 hW8 hg8
     go_wp2_with fail
     go_at_call 143
     refine (want_at hw HW9.out.ps ⟨#[114,101,116,117,114,110]⟩ mk_return).mono ?_
     rintro e w10 ⟨hc10,⟨hr,rfl⟩|⟨hr,rfl,hp10⟩⟩
     ·exact ⟨rfl,ret_err (by rw [←HF8.out,func6,tx_return,hr];rfl) (HW9.out.chg.then hc10)⟩
     have HW10:=hid (HW9.out.next rfl (by decide) hlt hc10 hp10)
     have HF10:=hid (show (Syn.list (Tk ys) (ys.length+1) [59] (j8+1)).on (fun es i=>(Syn.want (Tk ys) i [125]).on fun _ i=>.ok ((⟨bl s1,l1,ps,rs,l,b++[⟨9,[],[],es⟩]⟩:Syn.Fn),i))=RR from by rw [←HF8.out,func6,tx_return,hr];rfl)
     have HB10:=hid (br_next HW9.out.ps HB8.out hc10)
     have HH10:=hid (HH8.out.chg hc10 (fun k e=>by subst e;exact HM8.out.2.2.1))
     clear hc10 hr hp10 HW9 HB8 HH8 HF8 f5 k8 k9
     have hbx:=HW10.out.box
     have h1:=HW10.out.blk
     have hp10:=HW10.out.ps
     obtain ⟨cs,h2,hE2⟩:=HB10.out
     obtain ⟨xp,hxp⟩:=hp10.blk
     have hnb:¬g=bp:=blk_ne h1 hxp (by decide)
     have hnb1:¬w.heap.size=bp:=hne
     have hc1:=cell_of (j:=5) h1 rfl
     have hc2:=cell_of (j:=0) hbx rfl
     have hlt1:=heap_lt h1
     have hlt2:=heap_lt hbx
     have hpd:PS ys len bp bw vp w10.drew (j8+1):=hp10.chg (S:=fun _=>False) (Chg.refl _ _).drew id id
     have hhd:Has w10.drew m8:=HH10.out.chg ((Chg.refl (fun _=>False) w10).drew) (fun _ e=>e.elim)
     have HEX:=hid (exprs_any hw hpd ⟨#[59]⟩ mk_59 (by decide) hhd HM8.out.2.2.1)
     obtain ⟨j0,hj0,hy0,hy1,hy2⟩:=infoSt
     go_wp2_with fail
     cases hri:Syn.list (Tk ys) (ys.length+1) (bl ⟨#[59]⟩) (j8+1) with
     | error q0 =>
      obtain ⟨er,k⟩:=q0
      have HRI:=hid hri
      clear hri
      have hS0:w10.drew.cell? ⟨g,5,none⟩=some (.slice q8 b.length c8)∧w10.drew.cell? ⟨w.heap.size,0,none⟩=some (.pointer (some ⟨bp,0,none⟩)):=⟨hc1,hc2⟩
      refine wp_region_held_drew (S:=fun w'=>w'.cell? ⟨g,5,none⟩=some (.slice q8 b.length c8)∧w'.cell? ⟨w.heap.size,0,none⟩=some (.pointer (some ⟨bp,0,none⟩))) hmx hS0 (fun hHeld=>?_)
      refine wpAnyH_take (i:=0) (v:=.pointer (some ⟨g,5,none⟩)) rfl (by kernel_rfl) (by kernel_rfl) (by kernel_rfl) (fun _ _ _ h=>h) (Or.inl ⟨by rfl,fun w hSw=>by obtain ⟨s1,s2⟩:=hSw;go_simp⟩) (by assumption) ?_
      try simp only [Act.put,List.setIfInBounds_toArray,List.set_cons_zero,List.set_cons_succ,List.getElem_toArray,List.getElem_cons_zero]
      refine wpAnyH_take (i:=1) (v:=.slice q8 b.length c8) rfl (by kernel_rfl) (by kernel_rfl) (by kernel_rfl) (fun _ _ _ h=>h) (Or.inl ⟨by rfl,fun w hSw=>by obtain ⟨s1,s2⟩:=hSw;go_simp⟩) (by assumption) ?_
      try simp only [Act.put,List.setIfInBounds_toArray,List.set_cons_zero,List.set_cons_succ,List.getElem_toArray,List.getElem_cons_zero,List.getElem_cons_succ]
      refine wpAnyH_take (i:=2) (v:=.pointer (some ⟨bp,0,none⟩)) rfl (by kernel_rfl) (by kernel_rfl) (by kernel_rfl) (fun _ _ _ h=>h) (Or.inl ⟨by rfl,fun w hSw=>by obtain ⟨s1,s2⟩:=hSw;go_simp⟩) (by assumption) ?_
      try simp only [Act.put,List.setIfInBounds_toArray,List.set_cons_zero,List.set_cons_succ,List.getElem_toArray,List.getElem_cons_zero,List.getElem_cons_succ]
      refine wpAnyH_ready (rs:=[3]) (by kernel_rfl) (by simp) ?_
      refine AllReadyH.cons rfl (fun K hK=>?_) AllReadyH.nil
      go_simp
      go_at_call 151
      refine HEX.out.mono ?_
      rw [HRI.out]
      rintro e w' ⟨hcc,rfl⟩
      exact ⟨rfl,ret_err (by rw [←HF10.out,show ([59]:List Nat)=bl ⟨#[59]⟩ from rfl,HRI.out];rfl) (HW10.out.chg.drew.then hcc)⟩
     | ok q0 =>
      obtain ⟨es,j11⟩:=q0
      have HRI:=hid hri
      clear hri
      have h1d:=HW10.out.drew.blk
      have hbxd:w10.drew.heap[w.heap.size]?=some (.cells #[.pointer (some ⟨bp,0,none⟩)] 119 (0,0)):=hbx
      have h2d:w10.drew.ownsRow 0 47 4 (.slice q8 b.length c8) b.length cs:=h2
      obtain ⟨xt,hxt⟩:=hpd.blk
      have HROW:=hid (fun w1 (hc:Chg (fun k=>k=bp) w10.drew w1)=>own_chg h2d hc (fun k hk e=>by subst e;exact blk_own hxt h2d (by decide) hk))
      have HAPP:=hid (fun w1 w9 (o:Obj) (hc:Chg (fun k=>k=bp) w10.drew w1) (hg:(w1.alloc o).grownBy w9 (Value.ownBlock (.slice q8 b.length c8))) =>
       And.intro (gj_mid h2d hc hg h1d (by decide) hnb) (gj_mid h2d hc hg hbxd (by decide) hnb1))
      have hlb3:b.length≤131072:=by omega
      go_region_law
       (first
        | (go_simp;go_at_call 151;refine HEX.out.mono ?_;rw [HRI.out];rintro e w1 ⟨hcc,v1,m1,rfl,b1,b2,b3,b4,b5⟩;obtain ⟨qx,cx,rfl⟩:=ex_shape b4;have k1':=hcc.cell (show w10.drew.cell? ⟨g,5,none⟩=_ from hc1) hnb;have k2:=hcc.cell (show w10.drew.cell? ⟨w.heap.size,0,none⟩=_ from hc2) hnb1;have p1:=hcc.heap h1d hnb;have p2:=hcc.heap hbxd hnb1;have k3:=free_of (j:=5) p1;have kk:=And.intro (cell_of (j:=5) (heap_new _ (.cells #[.int .i64 9,.string ⟨#[]⟩,.slice none 0 0,.slice qx es.length cx] 47) p1) rfl) (And.intro (cell_of (j:=0) (heap_new _ (.cells #[.int .i64 9,.string ⟨#[]⟩,.slice none 0 0,.slice qx es.length cx] 47) p2) rfl) (free_of (j:=5) (heap_new _ (.cells #[.int .i64 9,.string ⟨#[]⟩,.slice none 0 0,.slice qx es.length cx] 47) p1))))
        | (refine step_append_mine rfl (.tmp 36) (.tmp 40) 41 rfl 0 47 j0 (.agg #[.int .i64 0,.string ⟨#[]⟩,.slice none 0 0,.slice none 0 0]) 4 72 Tryz.underlying41 hj0 hy0 hy1 hy2 rfl (by decide) (.slice q8 b.length c8) b.length cs (by simp [Act.eval]) ((HROW.out _ hcc).alloc _) ⟨_,0,none⟩ 1 1 [.int .i64 9,.string ⟨#[]⟩,.slice none 0 0,.slice qx es.length cx] (by simp [Act.eval]) rfl (row_new _ [.int .i64 9,.string ⟨#[]⟩,.slice none 0 0,.slice qx es.length cx] 47) (one_st _ _ _) (by unfold maxLen;omega) (by omega) (Nat.zero_le _) ?_;intro v9 w9 hown9 hgrow9 hat9;obtain ⟨q9,c9,rfl⟩:=own_shape hown9;obtain ⟨g1,g2⟩:=HAPP.out _ _ _ hcc hgrow9;have k4:=cell_of (j:=5) g1 rfl;have k5:=cell_of (j:=0) g2 rfl;have k6:=free_of (j:=5) g1))
      all_goals
       have hW11:=HW10.out.drew.next rfl (by decide) hlt hcc b5
       obtain ⟨e1,e2,e3,e4,e5,e6⟩:=br_app hW11.ps (HROW.out _ hcc) (hE2.mono (fun _ _ h=>h.le b1.le)) b2 (fun k hk=>b1.new k (HO8.out k hk) (h2d.lt k hk).2) (show StM m1 [.int .i64 9,.string ⟨#[]⟩,.slice none 0 0,.slice qx es.length cx] ⟨9,[],[],es⟩ from ⟨_,_,rfl,str_nil _,b4⟩) 47 hown9 hgrow9 (by simpa using hat9)
       obtain ⟨csb,hcb,hEb⟩:=e1
       obtain ⟨mz,d1,d2,d3,d4⟩:=RowM.done hcb e2 e3
       have hszx:=hcc.size
       have hgx:=heap_lt h1d
       have hold:∀k,k<w.heap.size+2→¬Value.ownBlock (.slice q9 (b.length+1) c9)=some k:=fun k hk e=>by
        rcases e4 k e with e'|e'
        ·have:=HA8.out k e';omega
        ·omega
       have hno:∀k,m1 k=none→¬Value.ownBlock (.slice q9 (b.length+1) c9)=some k→mz k=none:=fun k e hk=>by
        cases e2:mz k with
        | none=>rfl
        | some o =>
         rcases d2 k (by rw [e2];simp) with e3|e3
         ·exact (e3 e).elim
         ·exact (hk e3).elim
       have HMZ:=hid (show m.More w0 mz from (HM8.out.1.trans b1 (by omega)).trans ⟨d1,fun k e hk=>hno k e (hold k (by omega))⟩ (Nat.le_refl _))
       have hgz:mz g=none:=hno g (b1.new g HM8.out.2.1 (heap_lt h1d)) (blk_own g1 hown9 (by decide))
       have HW12:=hid (show FnW ys len bp bw vp ns w (.cells #[.string s1,.int .u64 (l1:Nat),.slice q3 ps.length c3,.slice q5 rs.length c5,.slice q7 l.length c7,.slice q9 (b.length+1) c9] 43 (0,0)) g j11 (w9.setCell ⟨g,5,none⟩ (.slice q9 (b.length+1) c9)) from (hW11.grow (HROW.out _ hcc) (fun k hk=>by have:=HA8.out k hk;omega) e6 e5).set 5 (.slice q9 (b.length+1) c9))
       have HH12:=hid (d3.chg ((Chg.refl (fun k=>k=g) w9).setCell (p:=⟨g,5,none⟩) (.inl rfl) (.slice q9 (b.length+1) c9)) (fun k e=>by subst e;exact hgz))
       have HF11:=hid (show (Syn.want (Tk ys) j11 [125]).on (fun _ i=>.ok ((⟨bl s1,l1,ps,rs,l,b++[⟨9,[],[],es⟩]⟩:Syn.Fn),i))=RR from by rw [←HF10.out,show ([59]:List Nat)=bl ⟨#[59]⟩ from rfl,HRI.out];rfl)
       have hle:=b1.le.trans d1
       have HFN:=hid (show FnM mz [.string (sb (bl s1)),.int .u64 (l1:Nat),.slice q3 ps.length c3,.slice q5 rs.length c5,.slice q7 l.length c7,.slice q9 (b.length+1) c9] ⟨bl s1,l1,ps,rs,l,b++[⟨9,[],[],es⟩]⟩ from
        ⟨_,_,_,_,rfl,hl1,⟨_,HM8.out.2.2.2.1.1.le hle,HM8.out.2.2.2.1.2.mono (DeR.le _ _ hle)⟩,⟨_,HM8.out.2.2.2.2.1.1.le hle,HM8.out.2.2.2.2.1.2.mono (LaR.le _ _ hle)⟩,⟨_,HM8.out.2.2.2.2.2.1.le hle,HM8.out.2.2.2.2.2.2.mono (DeR.le _ _ hle)⟩,⟨csb,d4,hEb.mono (fun _ _ h=>h.le d1)⟩⟩)
       have k12:=HW12.out.at0
       clear e2 e3 e4 e5 e6 hcb hEb d1 d2 d3 d4 hno hold hgz hle b1 b2 b3 b4 b5 hown9 hgrow9 hat9 HROW HAPP HEX HM8 HB10 HH10 h1 h2 hE2 h1d h2d hbxd hbx hxt hxp hpd hhd hp10 hcc p1 p2 g1 g2 hW11 HW10 k1' k2 k3 k4 k5 k6 kk hc1 hc2 HA8 HO8
       go_wp2_with fail
       go_at_call 143
       refine (want_at hw HW12.out.ps ⟨#[125]⟩ mk_125).mono ?_
       rintro e w13 ⟨hc13,⟨hr,rfl⟩|⟨hr,rfl,hp13⟩⟩
       ·exact ⟨rfl,ret_err (by rw [←HF11.out,show ([125]:List Nat)=bl ⟨#[125]⟩ from rfl,hr];rfl) (HW12.out.chg.then hc13)⟩
       have HW13:=hid (HW12.out.next rfl (by decide) hlt hc13 hp13)
       have HE:=hid (show .ok ((⟨bl s1,l1,ps,rs,l,b++[⟨9,[],[],es⟩]⟩:Syn.Fn),j11+1)=RR from by rw [←HF11.out,show ([125]:List Nat)=bl ⟨#[125]⟩ from rfl,hr];rfl)
       have HH13:=hid (HH12.out.chg hc13 (fun k e=>by rw [e];exact HMZ.out.new bp hbm (by omega)))
       have hcs:=chg_six (Chg.refl (fun k=>k=w.heap.size+1) w13) (.inl rfl) (.string s1) (.int .u64 (l1:Nat)) (.slice q3 ps.length c3) (.slice q5 rs.length c5) (.slice q7 l.length c7) (.slice q9 (b.length+1) c9)
       have HEND:=hid (show Chg (fun k=>k=bp) w _∧FOk ys len bp bw vp ns m w ⟨bl s1,l1,ps,rs,l,b++[⟨9,[],[],es⟩]⟩ (j11+1) (.returned (.agg #[.string s1,.int .u64 (l1:Nat),.slice q3 ps.length c3,.slice q5 rs.length c5,.slice q7 l.length c7,.slice q9 (b.length+1) c9])) _ from
        ⟨chg_six (g:=w.heap.size+1) HW13.out.chg (.inr (by omega)) (.string s1) (.int .u64 (l1:Nat)) (.slice q3 ps.length c3) (.slice q5 rs.length c5) (.slice q7 l.length c7) (.slice q9 (b.length+1) c9),
         ⟨q3,_,c3,q5,_,c5,q7,_,c7,q9,_,c9,mz,by rw [sb_bl],HFN.out,HMZ.out.from (by omega),HH13.out.chg hcs (fun k e=>by rw [e];exact HMZ.out.new _ (hm.lt (by omega)) (by omega)),HMZ.out.new bp hbm (by omega),HW13.out.ps.chg hcs (fun e=>hne1 e.symm) (by omega),nr_chg HW13.out.nr hcs (fun k hk e=>by have:=hvp.out k hk;omega)⟩⟩)
       obtain ⟨r0,r1,r2,r3,r4,r5⟩:=six_cells HW13.out.blk
       obtain ⟨f0,f1,f2,f3,f4,f5⟩:=six_free HW13.out.res
       obtain ⟨z0,z1,z2,z3,z4,z5⟩:=six_cells HW13.out.res
       clear hc13 hr hp13 hcs k12
       go_wp2
       exact bodyPost_ret (v:=.agg #[.string s1,.int .u64 (l1:Nat),.slice q3 ps.length c3,.slice q5 rs.length c5,.slice q7 l.length c7,.slice q9 (b.length+1) c9]) (by simp [results,Tryz.results119,go_sem,z0,z1,z2,z3,z4,z5]) rfl (ret_ok HE.out.symm HEND.out.1 HEND.out.2)
end
end Go.Proofs.YtlpdjfimefjmcaaGreatDoor.Q
