/- Package names: a name outside of functions. Package names: the checks of one declaration, kind by kind. Package names: the checks of one declaration of a kind. (Written by a program.) Package names: the checks of one declaration of a kind. (Written by a program.) Package names: the checks of one dec -/
import Derived.Test.YtlpdjfimefjmcaaGreatDoorFlLevelsPR4
import Derived.Laws.StructEq
import Derived.Deep.RegionHeldLaw
import Derived.BigQuiet
import Derived.Deep.QuietTactic
namespace Go.Proofs.YtlpdjfimefjmcaaGreatDoor
open Go Go.RowKit Go.Proofs.Mm
def srV (s:SoZ) (q1:Option Addr) (c1:Nat) (q2:Option Addr) (c2:Nat) (q3:Option Addr) (c3:Nat) (q4:Option Addr) (c4:Nat) (q5:Option Addr) (c5:Nat):Array Value:=#[.slice q1 s.principals.length c1,.slice q2 s.globals.length c2,.slice q3 s.arrays.length c3,.slice q4 s.channels.length c4,.slice q5 s.funcs.length c5]
def InB (w:World) (b:Nat) (cs:Array Value) (T:TypeId):Prop:=w.heap[b]?=some (.cells cs T (0,0))
theorem InB.le {w w':World} {b:Nat} {cs:Array Value} {T:TypeId} (h:InB w b cs T) (hb:Below w.heap.size w w'):InB w' b cs T:=(hb.block b (heap_lt h)).trans h
theorem InB.cell {w:World} {b:Nat} {cs:Array Value} {T:TypeId} (h:InB w b cs T) {j:Nat} {v:Value} (hv:cs[j]?=some v):w.cell? ⟨b,j,none⟩=some v:=cell_of h hv
theorem InB.lt {w:World} {b:Nat} {cs:Array Value} {T:TypeId} (h:InB w b cs T):b<w.heap.size:=heap_lt h
theorem InB.new (w:World) (cs:Array Value) (T:TypeId):InB (w.alloc (.cells cs T)) w.heap.size cs T:=World.alloc_heap_new _ _
theorem InB.new' {w:World} {b:Nat} (cs:Array Value) (T:TypeId) (h:w.heap.size=b):InB (w.alloc (.cells cs T)) b cs T:=by subst h;exact InB.new _ _ _
theorem eqRef (a b c d:Int) (w:World):(Op.equalIn 10000 54 (.agg #[.int .i64 a,.int .i64 b]) (.agg #[.int .i64 c,.int .i64 d])).run Tryz.prog w=.ok (a == c && b == d) w:=by
  have u3:=Tryz.underlying3
  have hS:Tryz.prog.underlying 54=some (.struct (Tryz.prog.fieldsOf 54)):=by kernel_rfl
  have hp:Tryz.prog.stoodInHeld 54=false:=by kernel_rfl
  rw [show (10000:Nat)=9999+1 from rfl,run_equalIn_agg w 9999 54 _ _ hS hp]
  simp only [Program.fieldsOf,Tryz.underlying54]
  go_simp
  by_cases h1:a=c <;> by_cases h2:b=d <;> simp [h1,h2]
theorem neRef (a b c d:Int) (w:World):(binOp .neq 54 (.agg #[.int .i64 a,.int .i64 b]) (.agg #[.int .i64 c,.int .i64 d])).run Tryz.prog w=.ok (.bool (!(a == c && b == d))) w:=by
  rw [run_neq_struct,eqRef];rfl
section
variable {lt:Bool} {C:Cl} {W:World} {s:SoZ} {q1:Option Addr} {c1:Nat} {q2:Option Addr} {c2:Nat} {q3:Option Addr} {c3:Nat} {q4:Option Addr} {c4:Nat} {q5:Option Addr} {c5:Nat}
theorem find_q (h:SrcO lt C s q1 c1 q2 c2 q3 c3 q4 c4 q5 c5) (hC:CLe C (wC W)) (f:Int) (nm:ByteArray) :
    Calls Tryz.prog 13 #[.agg (srV s q1 c1 q2 c2 q3 c3 q4 c4 q5 c5),.int .i64 f,.string nm] W (RetB (refV (fndZ s f nm)) W):=find_p h hC f nm
theorem srV_cells {b:Nat} (h:InB W b (srV s q1 c1 q2 c2 q3 c3 q4 c4 q5 c5) 27):W.cell? ⟨b,0,none⟩=some (.slice q1 s.principals.length c1)∧W.cell? ⟨b,1,none⟩=some (.slice q2 s.globals.length c2)∧W.cell? ⟨b,2,none⟩=some (.slice q3 s.arrays.length c3)∧W.cell? ⟨b,3,none⟩=some (.slice q4 s.channels.length c4)∧W.cell? ⟨b,4,none⟩=some (.slice q5 s.funcs.length c5) :=
  ⟨h.cell rfl,h.cell rfl,h.cell rfl,h.cell rfl,h.cell rfl⟩
theorem two_cells {b:Nat} {x y:Value} {T:TypeId} (h:InB W b #[x,y] T):W.cell? ⟨b,0,none⟩=some x∧W.cell? ⟨b,1,none⟩=some y:=⟨h.cell rfl,h.cell rfl⟩
set_option maxRecDepth 100000 in
set_option maxHeartbeats 2000000 in
theorem declaredC_p (h:SrcO lt C s q1 c1 q2 c2 q3 c3 q4 c4 q5 c5) (hC:CLe C (wC W)) (nm:ByteArray) (kd k:Nat) (hk:1≤kd) (b0 b1 b2:Nat)
    (h0:InB W b0 (srV s q1 c1 q2 c2 q3 c3 q4 c4 q5 c5) 27) (h1:W.cell? ⟨b1,0,none⟩=some (.string nm)) (h2:InB W b2 #[.int .i64 (kd:Int),.int .i64 (k:Int)] 54) :
    Calls Tryz.prog 122 #[.pointer (some ⟨b0,0,none⟩),.pointer (some ⟨b1,0,none⟩),.pointer (some ⟨b2,0,none⟩)] W (RetB (.bool (fndZ s (-1) nm != some (kd,k))) W):=by
  have HF:=Lib.hid (find_q h hC (-1) nm)
  obtain ⟨x0,x1,x2,x3,x4⟩:=srV_cells h0
  have H2:=Lib.hid h2
  clear h hC h0 h2
  unfold srV at HF
  generalize s.principals.length=n1 at *
  generalize s.globals.length=n2 at *
  generalize s.arrays.length=n3 at *
  generalize s.channels.length=n4 at *
  generalize s.funcs.length=n5 at *
  generalize fndZ s (-1) nm=R at *
  go_enter Tryz.func122,Tryz.ntmps122
  go_wp2_with fail
  go_at_call 13
  refine HF.out.mono ?_
  rintro e w1 ⟨rfl,hb⟩
  have HB:=Lib.hid hb
  obtain ⟨y0,y1⟩:=two_cells (H2.out.le hb)
  have hlt:=(H2.out.le hb).lt
  clear hb x0 x1 x2 x3 x4
  cases R with
  | none =>
    unfold refV
    have hne:=neRef
    go_wp2
    go_ret
    refine ⟨ret_bool ?_,?_⟩
    · have:((0:Int) == (kd:Int))=false:=by rw [beq_eq_false_iff_ne];omega
      rw [this];rfl
    · repeat (first | exact HB.out | refine bl_al ?_ _ | refine bl_dr ?_)
  | some x =>
    obtain ⟨k1,x1⟩:=x
    unfold refV
    have hne:=neRef
    go_wp2
    go_ret
    refine ⟨ret_bool ?_,?_⟩
    · rw [Bool.eq_iff_iff]
      simp
      omega
    · repeat (first | exact HB.out | refine bl_al ?_ _ | refine bl_dr ?_)
set_option maxRecDepth 100000 in
set_option maxHeartbeats 2000000 in
theorem declared_p (h:SrcO lt C s q1 c1 q2 c2 q3 c3 q4 c4 q5 c5) (hC:CLe C (wC W)) (nm:ByteArray) (kd k:Nat) (hk:1≤kd) :
    Calls Tryz.prog 72 #[.agg (srV s q1 c1 q2 c2 q3 c3 q4 c4 q5 c5),.string nm,.agg #[.int .i64 (kd:Int),.int .i64 (k:Int)]] W (Makes (.int .i64 ((decE s nm (kd,k):Nat):Int)) W):=by
  have hmf:∀ (fn:Fn) (first cap:Array Value) (w:World),(Instr.makeFunc fn first cap).run Tryz.prog w=.ok (.func fn first cap) w:=fun _ _ _ _=>rfl
  have ek:Ent 122:=ent_of Tryz.func122 (by kernel_rfl) rfl
  have HD:=Lib.hid (fun (w:World) (b0 b1 b2:Nat) (hb:Below W.heap.size W w)=>declaredC_p (W:=w) h (hC.trans (below_cle hb)) nm kd k hk b0 b1 b2)
  have HE:=Lib.hid (show decE s nm (kd,k)=newE nm (fndZ s (-1) nm != some (kd,k)) from rfl)
  clear h hC
  generalize decE s nm (kd,k)=E at *
  generalize (fndZ s (-1) nm != some (kd,k))=r at *
  unfold srV at HD ⊢
  generalize s.principals.length=n1 at *
  generalize s.globals.length=n2 at *
  generalize s.arrays.length=n3 at *
  generalize s.channels.length=n4 at *
  generalize s.funcs.length=n5 at *
  go_enter Tryz.func72,Tryz.ntmps72
  go_wp2_with fail
  have hb:Below W.heap.size W (((W.alloc (.cells #[.slice q1 n1 c1,.slice q2 n2 c2,.slice q3 n3 c3,.slice q4 n4 c4,.slice q5 n5 c5] 27)).alloc (.cells #[.string nm] 9)).alloc (.cells #[.int .i64 (kd:Int),.int .i64 (k:Int)] 54)):=bl_al (bl_al (bl_al (Below.refl _ _) _) _) _
  have i0:InB (((W.alloc (.cells #[.slice q1 n1 c1,.slice q2 n2 c2,.slice q3 n3 c3,.slice q4 n4 c4,.slice q5 n5 c5] 27)).alloc (.cells #[.string nm] 9)).alloc (.cells #[.int .i64 (kd:Int),.int .i64 (k:Int)] 54)) W.heap.size #[.slice q1 n1 c1,.slice q2 n2 c2,.slice q3 n3 c3,.slice q4 n4 c4,.slice q5 n5 c5] 27:=(InB.new _ _ _).le (bl_al (bl_al (Below.refl _ _) _) _)
  have i1:(((W.alloc (.cells #[.slice q1 n1 c1,.slice q2 n2 c2,.slice q3 n3 c3,.slice q4 n4 c4,.slice q5 n5 c5] 27)).alloc (.cells #[.string nm] 9)).alloc (.cells #[.int .i64 (kd:Int),.int .i64 (k:Int)] 54)).cell? ⟨W.heap.size+1,0,none⟩=some (.string nm):=cell_b (new_cell' _ _ (by simp)) (bl_al (Below.refl _ _) _)
  have i2:InB (((W.alloc (.cells #[.slice q1 n1 c1,.slice q2 n2 c2,.slice q3 n3 c3,.slice q4 n4 c4,.slice q5 n5 c5] 27)).alloc (.cells #[.string nm] 9)).alloc (.cells #[.int .i64 (kd:Int),.int .i64 (k:Int)] 54)) (W.heap.size+2) #[.int .i64 (kd:Int),.int .i64 (k:Int)] 54:=InB.new' _ _ (by simp)
  generalize ((W.alloc _).alloc _).alloc _=w0 at *
  have HB0:=Lib.hid hb
  have HF:=Lib.hid (show FunV w0 (.func (.func 122) #[] #[.pointer (some ⟨W.heap.size,0,none⟩),.pointer (some ⟨W.heap.size+1,0,none⟩),.pointer (some ⟨W.heap.size+2,0,none⟩)]) (.bool r) from
    ⟨_,_,rfl,ek,fun w hw=>HD.out w _ _ _ (bl_tr hb hw) (i0.le hw) (cell_b i1 hw) (i2.le hw)⟩)
  clear hb i0 i1 i2 HD ek
  go_at_call 68
  refine (newName_p nm r _ HF.out).mono ?_
  rintro e w1 ⟨u,rfl,hb1,hf1⟩
  have HB1:=Lib.hid (bl_tr HB0.out hb1)
  have HF1:=Lib.hid hf1
  clear hb1 hf1
  go_wp2
  go_ret
  exact ⟨u,rfl,HB1.out,by rw [HE.out];exact HF1.out⟩
end
end Go.Proofs.YtlpdjfimefjmcaaGreatDoor
namespace Go.Proofs.YtlpdjfimefjmcaaGreatDoor
open Go Go.RowKit Go.Proofs.Mm
def Rows1 (x:Nat) (W:World) (e:Ending) (w':World):Prop:=∃ q c es,e=.returned (.slice q (List.length es) c)∧Below W.heap.size W w'∧ChkRow w' q es∧es.length≤1000∧fst0 es=x
theorem lb_eq (s:SoZ) (l:Nat):lbsU s.principals.length [l]=lblE s l:=by unfold lbsU lblE;simp
theorem chk1 {w:World} {b:Nat} {u:Value} {x:Nat} (h0:w.cell? ⟨b,0,none⟩=some u) (f0:FunV w u (.int .i64 ((x:Nat):Int))):ChkRow w (some ⟨b,0,none⟩) [x]:=by
  intro j hj _
  obtain rfl:j=0:=by simp at hj;omega
  obtain ⟨K,ca,rfl,hr⟩:=f0
  exact ⟨b,0,K,ca,rfl,h0,K,ca,rfl,hr⟩
theorem chk2 {w:World} {b:Nat} {u v:Value} {x y:Nat} (h:w.cell? ⟨b,0,none⟩=some u∧w.cell? ⟨b,1,none⟩=some v) (f0:FunV w u (.int .i64 ((x:Nat):Int))) (f1:FunV w v (.int .i64 ((y:Nat):Int))):ChkRow w (some ⟨b,0,none⟩) [x,y]:=by
  intro j hj _
  have hj2:j=0 ∨ j=1:=by simp at hj;omega
  obtain ⟨K,ca,rfl,hr⟩:=f0
  obtain ⟨K',ca',rfl,hr'⟩:=f1
  rcases hj2 with rfl | rfl
  · exact ⟨b,0,K,ca,rfl,h.1,K,ca,rfl,hr⟩
  · exact ⟨b,0,K',ca',rfl,h.2,K',ca',rfl,hr'⟩
theorem chk3 {w:World} {b:Nat} {u v t:Value} {x y z:Nat} (h:w.cell? ⟨b,0,none⟩=some u∧w.cell? ⟨b,1,none⟩=some v∧w.cell? ⟨b,2,none⟩=some t) (f0:FunV w u (.int .i64 ((x:Nat):Int))) (f1:FunV w v (.int .i64 ((y:Nat):Int))) (f2:FunV w t (.int .i64 ((z:Nat):Int))):ChkRow w (some ⟨b,0,none⟩) [x,y,z]:=by
  intro j hj _
  have hj2:j=0 ∨ j=1 ∨ j=2:=by simp at hj;omega
  obtain ⟨K,ca,rfl,hr⟩:=f0
  obtain ⟨K',ca',rfl,hr'⟩:=f1
  obtain ⟨K2,ca2,rfl,hr2⟩:=f2
  rcases hj2 with rfl | rfl | rfl
  · exact ⟨b,0,K,ca,rfl,h.1,K,ca,rfl,hr⟩
  · exact ⟨b,0,K',ca',rfl,h.2.1,K',ca',rfl,hr'⟩
  · exact ⟨b,0,K2,ca2,rfl,h.2.2,K2,ca2,rfl,hr2⟩
theorem Makes.fn {v:Value} {W:World} {e:Ending} {w':World} (h:Makes v W e w'):∃ K ca,e=.returned (.func (.func K) #[] ca)∧Below W.heap.size W w'∧FunV w' (.func (.func K) #[] ca) v:=by
  obtain ⟨u,rfl,hb,K,ca,rfl,hr⟩:=h
  exact ⟨K,ca,rfl,hb,K,ca,rfl,hr⟩
theorem new_cell_d {W:World} {n:Nat} (v:Value) (T:TypeId) (h:W.heap.size=n):((W.alloc (.cells #[v] T)).drew).cell? ⟨n,0,none⟩=some v:=new_cell' v T h
theorem la_one {w:World} {b l:Nat} (h:w.cell? ⟨b,0,none⟩=some (.int .u64 (l:Nat))) (hl:l<u64B):LaAt (wC w) (some ⟨b,0,none⟩) [l]:=by
  intro j hj
  obtain rfl:j=0:=by simp at hj;omega
  exact ⟨b,0,rfl,h,hl⟩
section
variable {lt:Bool} {C:Cl} {W:World} {s:SoZ} {q1:Option Addr} {c1:Nat} {q2:Option Addr} {c2:Nat} {q3:Option Addr} {c3:Nat} {q4:Option Addr} {c4:Nat} {q5:Option Addr} {c5:Nat}
end
end Go.Proofs.YtlpdjfimefjmcaaGreatDoor
namespace Go.Proofs.YtlpdjfimefjmcaaGreatDoor
open Go Go.RowKit Go.Proofs.Mm
section
variable {lt:Bool} {C:Cl} {W:World} {s:SoZ} {q1:Option Addr} {c1:Nat} {q2:Option Addr} {c2:Nat} {q3:Option Addr} {c3:Nat} {q4:Option Addr} {c4:Nat} {q5:Option Addr} {c5:Nat}
set_option maxRecDepth 100000 in
set_option maxHeartbeats 16000000 in
theorem group2_p (h:SrcO lt C s q1 c1 q2 c2 q3 c3 q4 c4 q5 c5) (hC:CLe C (wC W)) (b0:Nat) (h0:InB W b0 (srV s q1 c1 q2 c2 q3 c3 q4 c4 q5 c5) 27) (k:Nat) (hk:k<s.globals.length) :
    Calls Tryz.prog 71 #[.int .i64 (k:Int),.pointer (some ⟨b0,0,none⟩)] W (Rows1 (glE s 2 s.globals k) W):=by
  have HD:=Lib.hid (fun (w:World) (hb:Below W.heap.size W w) nm=>declared_p (W:=w) h (hC.trans (below_cle hb)) nm 2 k (by decide))
  have HE:=Lib.hid (show glE s 2 s.globals k=fst0 [decE s s.globals[k].name (2,k),lblE s s.globals[k].label] by unfold glE;rw [List.getElem?_eq_getElem hk])
  have HLB:=Lib.hid (lb_eq s s.globals[k].label)
  obtain ⟨g,o,rfl,a0,a1,hlab⟩:=h.gl.cells k hk
  have e0:W.cell? ⟨g,o+k * 2,none⟩=some (.string s.globals[k].name):=hC _ _ a0
  have e1:W.cell? ⟨g,o+k * 2+1,none⟩=some (.int .u64 (s.globals[k].label:Nat)):=hC _ _ a1
  obtain ⟨x0,x1,x2,x3,x4⟩:=srV_cells h0
  have hki:(k:Int)<(s.globals.length:Int):=by omega
  generalize glE s 2 s.globals k=E at *
  generalize s.globals[k]=d at *
  obtain ⟨nm,lab⟩:=d
  simp only at *
  have HD2:=Lib.hid (fun w hb=>HD.out w hb nm)
  generalize decE s nm (2,k)=e1' at *
  generalize lblE s lab=e2' at *
  have hg:g<W.heap.size:=cell_lt e0
  have hb0:b0<W.heap.size:=h0.lt
  clear h hC a0 a1 h0 hk HD
  unfold srV at HD2
  generalize s.principals.length=n1 at *
  generalize s.globals.length=n2 at *
  generalize s.arrays.length=n3 at *
  generalize s.channels.length=n4 at *
  generalize s.funcs.length=n5 at *
  go_enter Tryz.func71,Tryz.ntmps71
  go_wp2_with fail
  have HBW:=Lib.hid (show Below W.heap.size W (W.alloc (.cells #[.string nm,.int .u64 (lab:Nat)] 37)) from bl_al (Below.refl _ _) _)
  have i4:InB (W.alloc (.cells #[.string nm,.int .u64 (lab:Nat)] 37)) W.heap.size #[.string nm,.int .u64 (lab:Nat)] 37:=InB.new _ _ _
  obtain ⟨b4,hb4⟩:∃ b,W.heap.size=b:=⟨_,rfl⟩
  rw [hb4] at i4
  try rw [hb4]
  have z0:=cell_b x0 HBW.out
  have z1:=cell_b x1 HBW.out
  have z2:=cell_b x2 HBW.out
  have z3:=cell_b x3 HBW.out
  have z4:=cell_b x4 HBW.out
  have y0:=i4.cell (j:=0) (v:=.string nm) rfl
  have y1:=i4.cell (j:=1) (v:=.int .u64 (lab:Nat)) rfl
  generalize W.alloc (.cells #[.string nm,.int .u64 (lab:Nat)] 37)=w0 at *
  have HS:=Lib.hid (fun w' (hb:Below w0.heap.size w0 w')=>show w'.cell? ⟨b0,0,none⟩=some (.slice q1 n1 c1)∧w'.cell? ⟨b0,1,none⟩=some (.slice (some ⟨g,o,none⟩) n2 c2)∧w'.cell? ⟨b0,2,none⟩=some (.slice q3 n3 c3)∧w'.cell? ⟨b0,3,none⟩=some (.slice q4 n4 c4)∧w'.cell? ⟨b0,4,none⟩=some (.slice q5 n5 c5)∧w'.cell? ⟨b4,0,none⟩=some (.string nm)∧w'.cell? ⟨b4,1,none⟩=some (.int .u64 (lab:Nat)) from
    ⟨cell_b z0 hb,cell_b z1 hb,cell_b z2 hb,cell_b z3 hb,cell_b z4 hb,cell_b y0 hb,cell_b y1 hb⟩)
  have HHB:=Lib.hid hb4
  clear x0 x1 x2 x3 x4 e0 e1 i4 hb4 z0 z1 z2 z3 z4 y0 y1 hb0 hg
  go_region_held_law (fun w'=>w'.cell? ⟨b0,0,none⟩=some (.slice q1 n1 c1)∧w'.cell? ⟨b0,1,none⟩=some (.slice (some ⟨g,o,none⟩) n2 c2)∧w'.cell? ⟨b0,2,none⟩=some (.slice q3 n3 c3)∧w'.cell? ⟨b0,3,none⟩=some (.slice q4 n4 c4)∧w'.cell? ⟨b0,4,none⟩=some (.slice q5 n5 c5)∧w'.cell? ⟨b4,0,none⟩=some (.string nm)∧w'.cell? ⟨b4,1,none⟩=some (.int .u64 (lab:Nat)))
    ((refine HS.out _ ?_;repeat (first | exact Below.refl _ _ | refine bl_al ?_ _ | refine bl_dr ?_ | refine bl_tr ?_ hbl | refine bl_tr ?_ hbn | refine bl_tr ?_ hbd)))
    (first | (go_at_call 72;refine (HD2.out _ ?hbw).mono ?_;(case hbw=>refine bl_tr HBW.out ?_;repeat (first | exact Below.refl _ _ | refine bl_al ?_ _ | refine bl_dr ?_ | refine bl_tr ?_ hbl | refine bl_tr ?_ hbn | refine bl_tr ?_ hbd));rintro e wd hmk;obtain ⟨Kd,cd,rfl,hbd,hfd⟩:=hmk.fn) | (go_at_call 39;refine (labels_p [lab] n1 q1 c1 (by simp) ?hrow).mono ?_;(case hrow=>refine la_one ?_ hlab;first | exact new_cell' _ _ rfl | exact new_cell_d _ _ rfl | exact cell_b (new_cell' _ _ rfl) hbn | exact cell_b (new_cell_d _ _ rfl) hbn | exact cell_b (new_cell' _ _ rfl) hbd | exact cell_b (new_cell_d _ _ rfl) hbd | exact cell_b (cell_b (new_cell' _ _ rfl) hbd) hbn | exact cell_b (cell_b (new_cell_d _ _ rfl) hbd) hbn | exact cell_b (cell_b (new_cell' _ _ rfl) hbd) (bl_tr (bl_dr (Below.refl _ _)) hbn));rintro e wl hmk;obtain ⟨Kl,cl,rfl,hbl,hfl⟩:=hmk.fn))
  all_goals
    go_wp2
    go_ret
    have i9:InB (wl.alloc (.cells #[.func (.func Kd) #[] cd,.func (.func Kl) #[] cl] 90)) wl.heap.size _ _:=InB.new _ _ _
    refine ⟨_,2,[e1',e2'],rfl,?_,chk2 (two_cells i9) (hfd.le ?_) ?_,by simp,by rw [HE.out]⟩
    · refine bl_tr HBW.out ?_
      repeat (first | exact Below.refl _ _ | refine bl_al ?_ _ | refine bl_dr ?_ | refine bl_tr ?_ hbl | refine bl_tr ?_ hbn | refine bl_tr ?_ hbd)
    · repeat (first | exact Below.refl _ _ | refine bl_al ?_ _ | refine bl_dr ?_ | refine bl_tr ?_ hbl | refine bl_tr ?_ hbn | refine bl_tr ?_ hbd)
    · rw [HLB.out] at hfl
      refine hfl.le ?_
      repeat (first | exact Below.refl _ _ | refine bl_al ?_ _ | refine bl_dr ?_ | refine bl_tr ?_ hbl | refine bl_tr ?_ hbn | refine bl_tr ?_ hbd)
end
end Go.Proofs.YtlpdjfimefjmcaaGreatDoor
namespace Go.Proofs.YtlpdjfimefjmcaaGreatDoor
open Go Go.RowKit Go.Proofs.Mm
section
variable {lt:Bool} {C:Cl} {W:World} {s:SoZ} {q1:Option Addr} {c1:Nat} {q2:Option Addr} {c2:Nat} {q3:Option Addr} {c3:Nat} {q4:Option Addr} {c4:Nat} {q5:Option Addr} {c5:Nat}
set_option maxRecDepth 100000 in
set_option maxHeartbeats 16000000 in
theorem group4_p (h:SrcO lt C s q1 c1 q2 c2 q3 c3 q4 c4 q5 c5) (hC:CLe C (wC W)) (b0:Nat) (h0:InB W b0 (srV s q1 c1 q2 c2 q3 c3 q4 c4 q5 c5) 27) (k:Nat) (hk:k<s.channels.length) :
    Calls Tryz.prog 75 #[.int .i64 (k:Int),.pointer (some ⟨b0,0,none⟩)] W (Rows1 (glE s 4 s.channels k) W):=by
  have HD:=Lib.hid (fun (w:World) (hb:Below W.heap.size W w) nm=>declared_p (W:=w) h (hC.trans (below_cle hb)) nm 4 k (by decide))
  have HE:=Lib.hid (show glE s 4 s.channels k=fst0 [decE s s.channels[k].name (4,k),lblE s s.channels[k].label] by unfold glE;rw [List.getElem?_eq_getElem hk])
  have HLB:=Lib.hid (lb_eq s s.channels[k].label)
  obtain ⟨g,o,rfl,a0,a1,hlab⟩:=h.ch.cells k hk
  have e0:W.cell? ⟨g,o+k * 2,none⟩=some (.string s.channels[k].name):=hC _ _ a0
  have e1:W.cell? ⟨g,o+k * 2+1,none⟩=some (.int .u64 (s.channels[k].label:Nat)):=hC _ _ a1
  obtain ⟨x0,x1,x2,x3,x4⟩:=srV_cells h0
  have hki:(k:Int)<(s.channels.length:Int):=by omega
  generalize glE s 4 s.channels k=E at *
  generalize s.channels[k]=d at *
  obtain ⟨nm,lab⟩:=d
  simp only at *
  have HD2:=Lib.hid (fun w hb=>HD.out w hb nm)
  generalize decE s nm (4,k)=e1' at *
  generalize lblE s lab=e2' at *
  have hg:g<W.heap.size:=cell_lt e0
  have hb0:b0<W.heap.size:=h0.lt
  clear h hC a0 a1 h0 hk HD
  unfold srV at HD2
  generalize s.principals.length=n1 at *
  generalize s.globals.length=n2 at *
  generalize s.arrays.length=n3 at *
  generalize s.channels.length=n4 at *
  generalize s.funcs.length=n5 at *
  go_enter Tryz.func75,Tryz.ntmps75
  go_wp2_with fail
  have HBW:=Lib.hid (show Below W.heap.size W (W.alloc (.cells #[.string nm,.int .u64 (lab:Nat)] 37)) from bl_al (Below.refl _ _) _)
  have i4:InB (W.alloc (.cells #[.string nm,.int .u64 (lab:Nat)] 37)) W.heap.size #[.string nm,.int .u64 (lab:Nat)] 37:=InB.new _ _ _
  obtain ⟨b4,hb4⟩:∃ b,W.heap.size=b:=⟨_,rfl⟩
  rw [hb4] at i4
  try rw [hb4]
  have z0:=cell_b x0 HBW.out
  have z1:=cell_b x1 HBW.out
  have z2:=cell_b x2 HBW.out
  have z3:=cell_b x3 HBW.out
  have z4:=cell_b x4 HBW.out
  have y0:=i4.cell (j:=0) (v:=.string nm) rfl
  have y1:=i4.cell (j:=1) (v:=.int .u64 (lab:Nat)) rfl
  generalize W.alloc (.cells #[.string nm,.int .u64 (lab:Nat)] 37)=w0 at *
  have HS:=Lib.hid (fun w' (hb:Below w0.heap.size w0 w')=>show w'.cell? ⟨b0,0,none⟩=some (.slice q1 n1 c1)∧w'.cell? ⟨b0,1,none⟩=some (.slice q2 n2 c2)∧w'.cell? ⟨b0,2,none⟩=some (.slice q3 n3 c3)∧w'.cell? ⟨b0,3,none⟩=some (.slice (some ⟨g,o,none⟩) n4 c4)∧w'.cell? ⟨b0,4,none⟩=some (.slice q5 n5 c5)∧w'.cell? ⟨b4,0,none⟩=some (.string nm)∧w'.cell? ⟨b4,1,none⟩=some (.int .u64 (lab:Nat)) from
    ⟨cell_b z0 hb,cell_b z1 hb,cell_b z2 hb,cell_b z3 hb,cell_b z4 hb,cell_b y0 hb,cell_b y1 hb⟩)
  have HHB:=Lib.hid hb4
  clear x0 x1 x2 x3 x4 e0 e1 i4 hb4 z0 z1 z2 z3 z4 y0 y1 hb0 hg
  go_region_held_law (fun w'=>w'.cell? ⟨b0,0,none⟩=some (.slice q1 n1 c1)∧w'.cell? ⟨b0,1,none⟩=some (.slice q2 n2 c2)∧w'.cell? ⟨b0,2,none⟩=some (.slice q3 n3 c3)∧w'.cell? ⟨b0,3,none⟩=some (.slice (some ⟨g,o,none⟩) n4 c4)∧w'.cell? ⟨b0,4,none⟩=some (.slice q5 n5 c5)∧w'.cell? ⟨b4,0,none⟩=some (.string nm)∧w'.cell? ⟨b4,1,none⟩=some (.int .u64 (lab:Nat)))
    ((refine HS.out _ ?_;repeat (first | exact Below.refl _ _ | refine bl_al ?_ _ | refine bl_dr ?_ | refine bl_tr ?_ hbl | refine bl_tr ?_ hbn | refine bl_tr ?_ hbd)))
    (first | (go_at_call 72;refine (HD2.out _ ?hbw).mono ?_;(case hbw=>refine bl_tr HBW.out ?_;repeat (first | exact Below.refl _ _ | refine bl_al ?_ _ | refine bl_dr ?_ | refine bl_tr ?_ hbl | refine bl_tr ?_ hbn | refine bl_tr ?_ hbd));rintro e wd hmk;obtain ⟨Kd,cd,rfl,hbd,hfd⟩:=hmk.fn) | (go_at_call 39;refine (labels_p [lab] n1 q1 c1 (by simp) ?hrow).mono ?_;(case hrow=>refine la_one ?_ hlab;first | exact new_cell' _ _ rfl | exact new_cell_d _ _ rfl | exact cell_b (new_cell' _ _ rfl) hbn | exact cell_b (new_cell_d _ _ rfl) hbn | exact cell_b (new_cell' _ _ rfl) hbd | exact cell_b (new_cell_d _ _ rfl) hbd | exact cell_b (cell_b (new_cell' _ _ rfl) hbd) hbn | exact cell_b (cell_b (new_cell_d _ _ rfl) hbd) hbn | exact cell_b (cell_b (new_cell' _ _ rfl) hbd) (bl_tr (bl_dr (Below.refl _ _)) hbn));rintro e wl hmk;obtain ⟨Kl,cl,rfl,hbl,hfl⟩:=hmk.fn))
  all_goals
    go_wp2
    go_ret
    have i9:InB (wl.alloc (.cells #[.func (.func Kd) #[] cd,.func (.func Kl) #[] cl] 90)) wl.heap.size _ _:=InB.new _ _ _
    refine ⟨_,2,[e1',e2'],rfl,?_,chk2 (two_cells i9) (hfd.le ?_) ?_,by simp,by rw [HE.out]⟩
    · refine bl_tr HBW.out ?_
      repeat (first | exact Below.refl _ _ | refine bl_al ?_ _ | refine bl_dr ?_ | refine bl_tr ?_ hbl | refine bl_tr ?_ hbn | refine bl_tr ?_ hbd)
    · repeat (first | exact Below.refl _ _ | refine bl_al ?_ _ | refine bl_dr ?_ | refine bl_tr ?_ hbl | refine bl_tr ?_ hbn | refine bl_tr ?_ hbd)
    · rw [HLB.out] at hfl
      refine hfl.le ?_
      repeat (first | exact Below.refl _ _ | refine bl_al ?_ _ | refine bl_dr ?_ | refine bl_tr ?_ hbl | refine bl_tr ?_ hbn | refine bl_tr ?_ hbd)
end
end Go.Proofs.YtlpdjfimefjmcaaGreatDoor
namespace Go.Proofs.YtlpdjfimefjmcaaGreatDoor
open Go Go.RowKit Go.Proofs.Mm
section
variable {lt:Bool} {C:Cl} {W:World} {s:SoZ} {q1:Option Addr} {c1:Nat} {q2:Option Addr} {c2:Nat} {q3:Option Addr} {c3:Nat} {q4:Option Addr} {c4:Nat} {q5:Option Addr} {c5:Nat}
set_option maxRecDepth 100000 in
set_option maxHeartbeats 16000000 in
theorem group3_p (h:SrcO lt C s q1 c1 q2 c2 q3 c3 q4 c4 q5 c5) (hC:CLe C (wC W)) (b0:Nat) (h0:InB W b0 (srV s q1 c1 q2 c2 q3 c3 q4 c4 q5 c5) 27) (k:Nat) (hk:k<s.arrays.length) :
    Calls Tryz.prog 73 #[.int .i64 (k:Int),.pointer (some ⟨b0,0,none⟩)] W (Rows1 (arE s k) W):=by
  have HD:=Lib.hid (fun (w:World) (hb:Below W.heap.size W w) nm=>declared_p (W:=w) h (hC.trans (below_cle hb)) nm 3 k (by decide))
  have HE:=Lib.hid (show arE s k=fst0 [decE s s.arrays[k].name (3,k),unl (decide (1≤s.arrays[k].len∧s.arrays[k].len≤256)) 1,lblE s s.arrays[k].label] by unfold arE;rw [List.getElem?_eq_getElem hk])
  have HLB:=Lib.hid (lb_eq s s.arrays[k].label)
  obtain ⟨g,o,rfl,a0,a1,a2,hlab⟩:=h.ar.cells k hk
  have e0:W.cell? ⟨g,o+k * 3,none⟩=some (.string s.arrays[k].name):=hC _ _ a0
  have e1:W.cell? ⟨g,o+k * 3+1,none⟩=some (.int .i64 s.arrays[k].len):=hC _ _ a1
  have e2:W.cell? ⟨g,o+k * 3+2,none⟩=some (.int .u64 (s.arrays[k].label:Nat)):=hC _ _ a2
  obtain ⟨x0,x1,x2,x3,x4⟩:=srV_cells h0
  have hki:(k:Int)<(s.arrays.length:Int):=by omega
  generalize arE s k=E at *
  generalize s.arrays[k]=d at *
  obtain ⟨nm,ln,lab⟩:=d
  simp only at *
  have HD2:=Lib.hid (fun w hb=>HD.out w hb nm)
  generalize decE s nm (3,k)=e1' at *
  generalize lblE s lab=e2' at *
  have hg:g<W.heap.size:=cell_lt e0
  have hb0:b0<W.heap.size:=h0.lt
  clear h hC a0 a1 a2 h0 hk HD
  unfold srV at HD2
  generalize s.principals.length=n1 at *
  generalize s.globals.length=n2 at *
  generalize s.arrays.length=n3 at *
  generalize s.channels.length=n4 at *
  generalize s.funcs.length=n5 at *
  go_enter Tryz.func73,Tryz.ntmps73
  go_wp2_with fail
  have HBW:=Lib.hid (show Below W.heap.size W (W.alloc (.cells #[.string nm,.int .i64 ln,.int .u64 (lab:Nat)] 39)) from bl_al (Below.refl _ _) _)
  have i4:InB (W.alloc (.cells #[.string nm,.int .i64 ln,.int .u64 (lab:Nat)] 39)) W.heap.size #[.string nm,.int .i64 ln,.int .u64 (lab:Nat)] 39:=InB.new _ _ _
  obtain ⟨b4,hb4⟩:∃ b,W.heap.size=b:=⟨_,rfl⟩
  rw [hb4] at i4
  try rw [hb4]
  have z0:=cell_b x0 HBW.out
  have z1:=cell_b x1 HBW.out
  have z2:=cell_b x2 HBW.out
  have z3:=cell_b x3 HBW.out
  have z4:=cell_b x4 HBW.out
  have y0:=i4.cell (j:=0) (v:=.string nm) rfl
  have y1:=i4.cell (j:=1) (v:=.int .i64 ln) rfl
  have y2:=i4.cell (j:=2) (v:=.int .u64 (lab:Nat)) rfl
  generalize W.alloc (.cells #[.string nm,.int .i64 ln,.int .u64 (lab:Nat)] 39)=w0 at *
  have HS:=Lib.hid (fun w' (hb:Below w0.heap.size w0 w')=>show w'.cell? ⟨b0,0,none⟩=some (.slice q1 n1 c1)∧w'.cell? ⟨b0,1,none⟩=some (.slice q2 n2 c2)∧w'.cell? ⟨b0,2,none⟩=some (.slice (some ⟨g,o,none⟩) n3 c3)∧w'.cell? ⟨b0,3,none⟩=some (.slice q4 n4 c4)∧w'.cell? ⟨b0,4,none⟩=some (.slice q5 n5 c5)∧w'.cell? ⟨b4,0,none⟩=some (.string nm)∧w'.cell? ⟨b4,1,none⟩=some (.int .i64 ln)∧w'.cell? ⟨b4,2,none⟩=some (.int .u64 (lab:Nat)) from
    ⟨cell_b z0 hb,cell_b z1 hb,cell_b z2 hb,cell_b z3 hb,cell_b z4 hb,cell_b y0 hb,cell_b y1 hb,cell_b y2 hb⟩)
  have HHB:=Lib.hid hb4
  clear x0 x1 x2 x3 x4 e0 e1 e2 i4 hb4 z0 z1 z2 z3 z4 y0 y1 y2 hb0 hg
  go_region_held_law (fun w'=>w'.cell? ⟨b0,0,none⟩=some (.slice q1 n1 c1)∧w'.cell? ⟨b0,1,none⟩=some (.slice q2 n2 c2)∧w'.cell? ⟨b0,2,none⟩=some (.slice (some ⟨g,o,none⟩) n3 c3)∧w'.cell? ⟨b0,3,none⟩=some (.slice q4 n4 c4)∧w'.cell? ⟨b0,4,none⟩=some (.slice q5 n5 c5)∧w'.cell? ⟨b4,0,none⟩=some (.string nm)∧w'.cell? ⟨b4,1,none⟩=some (.int .i64 ln)∧w'.cell? ⟨b4,2,none⟩=some (.int .u64 (lab:Nat)))
    ((refine HS.out _ ?_;repeat (first | exact Below.refl _ _ | refine bl_al ?_ _ | refine bl_dr ?_ | refine bl_tr ?_ hbl | refine bl_tr ?_ hbn | refine bl_tr ?_ hbd)))
    (first | (go_at_call 72;refine (HD2.out _ ?hbw).mono ?_;(case hbw=>refine bl_tr HBW.out ?_;repeat (first | exact Below.refl _ _ | refine bl_al ?_ _ | refine bl_dr ?_ | refine bl_tr ?_ hbl | refine bl_tr ?_ hbn | refine bl_tr ?_ hbd));rintro e wd hmk;obtain ⟨Kd,cd,rfl,hbd,hfd⟩:=hmk.fn) | (go_at_call 74;refine (length_p ln).mono ?_;rintro e wn hmk;obtain ⟨Kn,cn,rfl,hbn,hfn⟩:=hmk.fn) | (go_at_call 39;refine (labels_p [lab] n1 q1 c1 (by simp) ?hrow).mono ?_;(case hrow=>refine la_one ?_ hlab;first | exact new_cell' _ _ rfl | exact new_cell_d _ _ rfl | exact cell_b (new_cell' _ _ rfl) hbn | exact cell_b (new_cell_d _ _ rfl) hbn | exact cell_b (new_cell' _ _ rfl) hbd | exact cell_b (new_cell_d _ _ rfl) hbd | exact cell_b (cell_b (new_cell' _ _ rfl) hbd) hbn | exact cell_b (cell_b (new_cell_d _ _ rfl) hbd) hbn | exact cell_b (cell_b (new_cell' _ _ rfl) hbd) (bl_tr (bl_dr (Below.refl _ _)) hbn));rintro e wl hmk;obtain ⟨Kl,cl,rfl,hbl,hfl⟩:=hmk.fn))
  all_goals
    go_wp2
    go_ret
    have i9:InB (wl.alloc (.cells #[.func (.func Kd) #[] cd,.func (.func Kn) #[] cn,.func (.func Kl) #[] cl] 90)) wl.heap.size _ _:=InB.new _ _ _
    refine ⟨_,3,[e1',unl (decide (1≤ln∧ln≤256)) 1,e2'],rfl,?_,chk3 ⟨i9.cell (j:=0) rfl,i9.cell (j:=1) rfl,i9.cell (j:=2) rfl⟩ (hfd.le ?_) (hfn.le ?_) ?_,by simp,by rw [HE.out]⟩
    · refine bl_tr HBW.out ?_
      repeat (first | exact Below.refl _ _ | refine bl_al ?_ _ | refine bl_dr ?_ | refine bl_tr ?_ hbl | refine bl_tr ?_ hbn | refine bl_tr ?_ hbd)
    · repeat (first | exact Below.refl _ _ | refine bl_al ?_ _ | refine bl_dr ?_ | refine bl_tr ?_ hbl | refine bl_tr ?_ hbn | refine bl_tr ?_ hbd)
    · repeat (first | exact Below.refl _ _ | refine bl_al ?_ _ | refine bl_dr ?_ | refine bl_tr ?_ hbl | refine bl_tr ?_ hbn | refine bl_tr ?_ hbd)
    · rw [HLB.out] at hfl
      refine hfl.le ?_
      repeat (first | exact Below.refl _ _ | refine bl_al ?_ _ | refine bl_dr ?_ | refine bl_tr ?_ hbl | refine bl_tr ?_ hbn | refine bl_tr ?_ hbd)
end
end Go.Proofs.YtlpdjfimefjmcaaGreatDoor
namespace Go.Proofs.YtlpdjfimefjmcaaGreatDoor
open Go Go.RowKit Go.Proofs.Mm
section
variable {lt:Bool} {C:Cl} {W:World} {s:SoZ} {q1:Option Addr} {c1:Nat} {q2:Option Addr} {c2:Nat} {q3:Option Addr} {c3:Nat} {q4:Option Addr} {c4:Nat} {q5:Option Addr} {c5:Nat}
set_option maxRecDepth 100000 in
set_option maxHeartbeats 2000000 in
theorem ixStr_p {q:Option Addr} {c:Nat} (l:List ByteArray) (hl:l.length≤9223372036854775807) (hrow:StrAt C q l) (hC:CLe C (wC W)) (nm:ByteArray) :
    Calls Tryz.prog 70 #[.slice q l.length c,.string nm] W fun e w'=>e=.returned (.int .i64 (ixI (idxZ l nm)))∧W=w':=by
  have HA:=Lib.hid hrow
  have HCC:=Lib.hid hC
  obtain ⟨n,hn⟩:∃ n,l.length=n:=⟨_,rfl⟩
  have HN:=Lib.hid hn
  rw [hn] at hl ⊢
  clear hrow hC hn
  go_enter Tryz.func70,Tryz.ntmps70
  go_wp2
  go_loop [8] (fun i=>∃ k:Nat,k≤n∧i=.int .i64 k∧Hid (∀ j (hj:j<l.length),j<k→decide (l[j]=nm)=false)) (fun i=>n - (intOf i).toNat)
  case atStart=>exact ⟨0,Nat.zero_le _,rfl,Lib.hid (fun j hj h=>absurd h (by omega))⟩
  case round =>
    obtain ⟨k,hk,rfl,HT⟩:=hrel
    by_cases hlt:k<n
    · have hk1:k<l.length:=by rw [HN.out];exact hlt
      have HK:=Lib.hid hk1
      obtain ⟨g,o,rfl,a0⟩:=HA.out k hk1
      have e0:W.cell? ⟨g,o+k,none⟩=some (.string l[k]):=HCC.out _ _ a0
      have HS0:=Lib.hid (fun h:decide (l[k]=nm)=false=>ix_step (p:=fun x=>decide (x=nm)) HK.out HT.out h)
      have HS1:=Lib.hid (fun h:decide (l[k]=nm)=true=>ix_hit (p:=fun x=>decide (x=nm)) HK.out HT.out h)
      have HDC:=Lib.hid (str_dec (a:=nm) (b:=l[k]))
      clear a0
      generalize l[k]=x at *
      clear hk1
      have hki:(k:Int)<(n:Int):=by omega
      by_cases hx:nm=x
      · have HR:=Lib.hid (HS1.out (by rw [decide_eq_true];exact hx.symm))
        have hd:(nm.toList == x.toList)=true:=by rw [HDC.out,decide_eq_true hx]
        clear hx
        go_wp2
        go_ret
        exact ⟨by unfold idxZ;rw [HR.out];rfl,rfl⟩
      · have HR:=Lib.hid (HS0.out (by rw [decide_eq_false];exact fun e=>hx e.symm))
        have hd:(nm.toList == x.toList)=false:=by rw [HDC.out,decide_eq_false hx]
        clear hx
        go_wp2
        exact ⟨⟨k+1,by omega,by go_num,HR⟩,by simp [intOf];omega⟩
    · have HR:=Lib.hid (ix_no (p:=fun x=>decide (x=nm)) (fun j hj _=>HT.out j hj (by have:=HN.out;omega)))
      go_wp2
      go_ret
      exact ⟨by unfold idxZ;rw [HR.out];rfl,rfl⟩
theorem ne_ix (x:Option Nat) (k:Nat):(ixI x != (k:Int))=(x != some k):=by
  rw [Bool.eq_iff_iff]
  cases x with
  | none=>simp [ixI]
  | some j=>simp [ixI];omega
set_option maxRecDepth 100000 in
set_option maxHeartbeats 2000000 in
theorem takenPr_p (h:SrcO lt C s q1 c1 q2 c2 q3 c3 q4 c4 q5 c5) (hC:CLe C (wC W)) (nm:ByteArray) (k:Nat) (b0 b1 b2:Nat)
    (h0:InB W b0 (srV s q1 c1 q2 c2 q3 c3 q4 c4 q5 c5) 27) (h1:W.cell? ⟨b1,0,none⟩=some (.string nm)) (h2:W.cell? ⟨b2,0,none⟩=some (.int .i64 (k:Int))) :
    Calls Tryz.prog 69 #[.pointer (some ⟨b0,0,none⟩),.pointer (some ⟨b1,0,none⟩),.pointer (some ⟨b2,0,none⟩)] W (RetB (.bool (idxZ s.principals nm != some k)) W):=by
  have hlen:=slx_len h.pr
  have HI:=Lib.hid (fun (w:World) (hb:Below W.heap.size W w)=>ixStr_p (W:=w) (c:=c1) s.principals (by omega) h.pr.cells (hC.trans (below_cle hb)) nm)
  obtain ⟨x0,-,-,-,-⟩:=srV_cells h0
  have HX:=Lib.hid (ne_ix (idxZ s.principals nm) k)
  clear h hC h0 hlen
  generalize s.principals.length=n1 at *
  generalize idxZ s.principals nm=r at *
  go_enter Tryz.func69,Tryz.ntmps69
  go_wp2_with fail
  have HS:=Lib.hid (fun w' (hb:Below W.heap.size W w')=>show w'.cell? ⟨b0,0,none⟩=some (.slice q1 n1 c1)∧w'.cell? ⟨b1,0,none⟩=some (.string nm)∧w'.cell? ⟨b2,0,none⟩=some (.int .i64 (k:Int)) from ⟨cell_b x0 hb,cell_b h1 hb,cell_b h2 hb⟩)
  clear x0 h1 h2
  go_region_held_law (fun w'=>w'.cell? ⟨b0,0,none⟩=some (.slice q1 n1 c1)∧w'.cell? ⟨b1,0,none⟩=some (.string nm)∧w'.cell? ⟨b2,0,none⟩=some (.int .i64 (k:Int)))
    ((refine HS.out _ ?_;repeat (first | exact Below.refl _ _ | refine bl_al ?_ _ | refine bl_dr ?_ | refine bl_tr ?_ hbl | refine bl_tr ?_ hbn | refine bl_tr ?_ hbd)))
    ((go_at_call 70;refine (HI.out _ ?hbw).mono ?_;(case hbw=>repeat (first | exact Below.refl _ _ | refine bl_al ?_ _ | refine bl_dr ?_ | refine bl_tr ?_ hbl | refine bl_tr ?_ hbn | refine bl_tr ?_ hbd));rintro e w' ⟨rfl,rfl⟩))
  all_goals
    go_wp2
    go_ret
    refine ⟨ret_bool HX.out,?_⟩
    repeat (first | exact Below.refl _ _ | refine bl_al ?_ _ | refine bl_dr ?_ | refine bl_tr ?_ hbl | refine bl_tr ?_ hbn | refine bl_tr ?_ hbd)
set_option maxRecDepth 100000 in
set_option maxHeartbeats 4000000 in
theorem group1_p (h:SrcO lt C s q1 c1 q2 c2 q3 c3 q4 c4 q5 c5) (hC:CLe C (wC W)) (b0:Nat) (h0:InB W b0 (srV s q1 c1 q2 c2 q3 c3 q4 c4 q5 c5) 27) (k:Nat) (hk:k<s.principals.length) :
    Calls Tryz.prog 67 #[.int .i64 (k:Int),.pointer (some ⟨b0,0,none⟩)] W (Rows1 (prE s k) W):=by
  have hmf:∀ (fn:Fn) (first cap:Array Value) (w:World),(Instr.makeFunc fn first cap).run Tryz.prog w=.ok (.func fn first cap) w:=fun _ _ _ _=>rfl
  have ek:Ent 69:=ent_of Tryz.func69 (by kernel_rfl) rfl
  have HE:=Lib.hid (show prE s k=newE s.principals[k] (idxZ s.principals s.principals[k] != some k) by unfold prE;rw [List.getElem?_eq_getElem hk])
  obtain ⟨g,o,rfl,a0⟩:=h.pr.cells k hk
  have HT:=Lib.hid (fun (w:World) (b1 b2:Nat) (hb:Below W.heap.size W w)=>takenPr_p (W:=w) h (hC.trans (below_cle hb)) s.principals[k] k b0 b1 b2 (h0.le hb))
  have e0:W.cell? ⟨g,o+k,none⟩=some (.string s.principals[k]):=hC _ _ a0
  obtain ⟨x0,x1,x2,x3,x4⟩:=srV_cells h0
  have hki:(k:Int)<(s.principals.length:Int):=by omega
  generalize prE s k=E at *
  generalize s.principals[k]=nm at *
  have hg:g<W.heap.size:=cell_lt e0
  have hb0:b0<W.heap.size:=h0.lt
  clear h hC a0 h0 hk
  generalize (idxZ s.principals nm != some k)=r at *
  generalize s.principals.length=n1 at *
  go_enter Tryz.func67,Tryz.ntmps67
  go_wp2_with fail
  have hb:Below W.heap.size W ((W.alloc (.cells #[.int .i64 (k:Int)] 3)).alloc (.cells #[.string nm] 9)):=bl_al (bl_al (Below.refl _ _) _) _
  have i1:((W.alloc (.cells #[.int .i64 (k:Int)] 3)).alloc (.cells #[.string nm] 9)).cell? ⟨W.heap.size,0,none⟩=some (.int .i64 (k:Int)):=cell_b (new_cell _ _ _) (bl_al (Below.refl _ _) _)
  have i2:((W.alloc (.cells #[.int .i64 (k:Int)] 3)).alloc (.cells #[.string nm] 9)).cell? ⟨W.heap.size+1,0,none⟩=some (.string nm):=new_cell' _ _ (by simp)
  generalize (W.alloc _).alloc _=w0 at *
  have HB0:=Lib.hid hb
  have HF:=Lib.hid (show FunV w0 (.func (.func 69) #[] #[.pointer (some ⟨b0,0,none⟩),.pointer (some ⟨W.heap.size+1,0,none⟩),.pointer (some ⟨W.heap.size,0,none⟩)]) (.bool r) from
    ⟨_,_,rfl,ek,fun w hw=>HT.out w _ _ (bl_tr hb hw) (cell_b i2 hw) (cell_b i1 hw)⟩)
  clear hb i1 i2 HT ek x0 x1 x2 x3 x4 e0 hg hb0
  go_at_call 68
  refine (newName_p nm r _ HF.out).mono ?_
  rintro e w1 hmk
  obtain ⟨Kd,cd,rfl,hbd,hfd⟩:=hmk.fn
  have HB1:=Lib.hid (bl_tr HB0.out hbd)
  have HF1:=Lib.hid hfd
  clear hbd hfd hmk
  go_wp2
  go_ret
  have i9:InB (w1.alloc (.cells #[.func (.func Kd) #[] cd] 90)) w1.heap.size _ _:=InB.new _ _ _
  refine ⟨_,1,[newE nm r],rfl,bl_al HB1.out _,chk1 (i9.cell (j:=0) rfl) (HF1.out.le (bl_al (Below.refl _ _) _)),by simp,?_⟩
  rw [HE.out]
  unfold fst0 fst0
  split
  · rename_i h;exact h.symm
  · rfl
set_option maxRecDepth 100000 in
set_option maxHeartbeats 8000000 in
theorem group5_p (h:SrcO lt C s q1 c1 q2 c2 q3 c3 q4 c4 q5 c5) (hC:CLe C (wC W)) (b0:Nat) (h0:InB W b0 (srV s q1 c1 q2 c2 q3 c3 q4 c4 q5 c5) 27) (k:Nat) (hk:k<s.funcs.length) :
    Calls Tryz.prog 76 #[.int .i64 (k:Int),.pointer (some ⟨b0,0,none⟩)] W (Rows1 (fuE s k) W):=by
  have HD:=Lib.hid (fun (w:World) (hb:Below W.heap.size W w) nm=>declared_p (W:=w) h (hC.trans (below_cle hb)) nm 5 k (by decide))
  have HE:=Lib.hid (show fuE s k=decE s s.funcs[k].name (5,k) by unfold fuE;rw [List.getElem?_eq_getElem hk])
  obtain ⟨g,o,qp,cp,qr,cr,qv,cv,qb,cb,rfl,a0,-⟩:=h.fn.cells k hk
  have e0:W.cell? ⟨g,o+k * 6,none⟩=some (.string s.funcs[k].name):=hC _ _ a0
  obtain ⟨x0,x1,x2,x3,x4⟩:=srV_cells h0
  have hki:(k:Int)<(s.funcs.length:Int):=by omega
  generalize fuE s k=E at *
  generalize s.funcs[k]=d at *
  obtain ⟨nm,_,_,_,_,_⟩:=d
  simp only at *
  have HD2:=Lib.hid (fun w hb=>HD.out w hb nm)
  generalize decE s nm (5,k)=e1' at *
  clear h hC a0 h0 hk HD
  unfold srV at HD2
  generalize s.principals.length=n1 at *
  generalize s.globals.length=n2 at *
  generalize s.arrays.length=n3 at *
  generalize s.channels.length=n4 at *
  generalize s.funcs.length=n5 at *
  have HS:=Lib.hid (fun w' (hb:Below W.heap.size W w')=>show w'.cell? ⟨b0,0,none⟩=some (.slice q1 n1 c1)∧w'.cell? ⟨b0,1,none⟩=some (.slice q2 n2 c2)∧w'.cell? ⟨b0,2,none⟩=some (.slice q3 n3 c3)∧w'.cell? ⟨b0,3,none⟩=some (.slice q4 n4 c4)∧w'.cell? ⟨b0,4,none⟩=some (.slice (some ⟨g,o,none⟩) n5 c5)∧w'.cell? ⟨g,o+k * 6,none⟩=some (.string nm) from ⟨cell_b x0 hb,cell_b x1 hb,cell_b x2 hb,cell_b x3 hb,cell_b x4 hb,cell_b e0 hb⟩)
  go_enter Tryz.func76,Tryz.ntmps76
  go_wp2_with fail
  clear x0 x1 x2 x3 x4 e0
  go_region_held_law (fun w'=>w'.cell? ⟨b0,0,none⟩=some (.slice q1 n1 c1)∧w'.cell? ⟨b0,1,none⟩=some (.slice q2 n2 c2)∧w'.cell? ⟨b0,2,none⟩=some (.slice q3 n3 c3)∧w'.cell? ⟨b0,3,none⟩=some (.slice q4 n4 c4)∧w'.cell? ⟨b0,4,none⟩=some (.slice (some ⟨g,o,none⟩) n5 c5)∧w'.cell? ⟨g,o+k * 6,none⟩=some (.string nm))
    ((refine HS.out _ ?_;repeat (first | exact Below.refl _ _ | refine bl_al ?_ _ | refine bl_dr ?_ | refine bl_tr ?_ hbl | refine bl_tr ?_ hbn | refine bl_tr ?_ hbd)))
    ((go_at_call 72;refine (HD2.out _ ?hbw).mono ?_;(case hbw=>repeat (first | exact Below.refl _ _ | refine bl_al ?_ _ | refine bl_dr ?_ | refine bl_tr ?_ hbl | refine bl_tr ?_ hbn | refine bl_tr ?_ hbd));rintro e wd hmk;obtain ⟨Kd,cd,rfl,hbd,hfd⟩:=hmk.fn))
  all_goals
    go_wp2
    go_ret
    have i9:InB (wd.alloc (.cells #[.func (.func Kd) #[] cd] 90)) wd.heap.size _ _:=InB.new _ _ _
    refine ⟨_,1,[e1'],rfl,?_,chk1 (i9.cell (j:=0) rfl) (hfd.le (bl_al (Below.refl _ _) _)),by simp,?_⟩
    · repeat (first | exact Below.refl _ _ | refine bl_al ?_ _ | refine bl_dr ?_ | refine bl_tr ?_ hbl | refine bl_tr ?_ hbn | refine bl_tr ?_ hbd)
    · rw [HE.out]
      unfold fst0 fst0
      split
      · rename_i h;exact h.symm
      · rfl
end
end Go.Proofs.YtlpdjfimefjmcaaGreatDoor
namespace Go.Proofs.YtlpdjfimefjmcaaGreatDoor
open Go Go.RowKit Go.Proofs.Mm
def grpsF:List (Nat × Nat × (Nat→Nat))→Nat→Option (Nat × Nat)
  | [],_=>none
  | x :: r,base=>orO (grpF x.2.1 x.2.2 base x.1 0) (grpsF r (base+x.1))
def gsOf (s:SoZ):List (Nat × Nat × (Nat→Nat)):=[(s.principals.length,64,prE s),(s.globals.length,32,glE s 2 s.globals),(s.arrays.length,16,arE s),(s.channels.length,16,glE s 4 s.channels),(s.funcs.length,32,fuE s)]
theorem orO_none {α:Type} (x:Option α):orO x none=x:=by cases x <;> rfl
theorem decls_gs (s:SoZ):declsZE s=grpsF (gsOf s) 0:=by
  unfold declsZE gsOf
  simp only [grpsF,orO_none,Nat.zero_add]
def GrpAt (w:World) (b:Nat) (gs:List (Nat × Nat × (Nat→Nat))):Prop:=∀ i (hi:i<gs.length),∃ K ca,w.cell? ⟨b,i * 3,none⟩=some (.int .i64 ((gs[i].1:Nat):Int))∧w.cell? ⟨b,i * 3+1,none⟩=some (.int .i64 ((gs[i].2.1:Nat):Int))∧w.cell? ⟨b,i * 3+2,none⟩=some (.func (.func K) #[] ca)∧Ent K∧gs[i].1≤140737488351232∧gs[i].2.1≤64 ∧
  ∀ k,k<gs[i].1→∀ w',Below w.heap.size w w'→Calls Tryz.prog K (#[]++#[.int .i64 (k:Int)]++ca) w' (Rows1 (gs[i].2.2 k) w')
theorem GrpAt.le {w w':World} {b:Nat} {gs:List (Nat × Nat × (Nat→Nat))} (h:GrpAt w b gs) (hb:Below w.heap.size w w'):GrpAt w' b gs:=by
  intro i hi
  obtain ⟨K,ca,h1,h2,h3,h4,h5,h6,h7⟩:=h i hi
  exact ⟨K,ca,cell_b h1 hb,cell_b h2 hb,cell_b h3 hb,h4,h5,h6,fun k hk w' hw=>h7 k hk w' (bl_tr hb hw)⟩
section
variable {lt:Bool} {C:Cl} {W:World} {s:SoZ} {q1:Option Addr} {c1:Nat} {q2:Option Addr} {c2:Nat} {q3:Option Addr} {c3:Nat} {q4:Option Addr} {c4:Nat} {q5:Option Addr} {c5:Nat}
set_option maxRecDepth 100000 in
set_option maxHeartbeats 4000000 in
theorem groups_p (h:SrcO lt C s q1 c1 q2 c2 q3 c3 q4 c4 q5 c5) (hC:CLe C (wC W)) :
    Calls Tryz.prog 36 #[.agg (srV s q1 c1 q2 c2 q3 c3 q4 c4 q5 c5)] W fun e w'=>∃ b,e=.returned (.slice (some ⟨b,0,none⟩) 5 5)∧Below W.heap.size W w'∧GrpAt w' b (gsOf s):=by
  have hmf:∀ (fn:Fn) (first cap:Array Value) (w:World),(Instr.makeFunc fn first cap).run Tryz.prog w=.ok (.func fn first cap) w:=fun _ _ _ _=>rfl
  have E1:Ent 67:=ent_of Tryz.func67 (by kernel_rfl) rfl
  have E2:Ent 71:=ent_of Tryz.func71 (by kernel_rfl) rfl
  have E3:Ent 73:=ent_of Tryz.func73 (by kernel_rfl) rfl
  have E4:Ent 75:=ent_of Tryz.func75 (by kernel_rfl) rfl
  have E5:Ent 76:=ent_of Tryz.func76 (by kernel_rfl) rfl
  have HALL:=Lib.hid (fun (w:World) (b b0:Nat) (cs:Array Value) (hw:Below W.heap.size W w) (i0:InB w b0 (srV s q1 c1 q2 c2 q3 c3 q4 c4 q5 c5) 27)
    (hcs:InB w b #[.int .i64 ((s.principals.length:Nat):Int),.int .i64 64,.func (.func 67) #[] #[.pointer (some ⟨b0,0,none⟩)],.int .i64 ((s.globals.length:Nat):Int),.int .i64 32,.func (.func 71) #[] #[.pointer (some ⟨b0,0,none⟩)],.int .i64 ((s.arrays.length:Nat):Int),.int .i64 16,.func (.func 73) #[] #[.pointer (some ⟨b0,0,none⟩)],.int .i64 ((s.channels.length:Nat):Int),.int .i64 16,.func (.func 75) #[] #[.pointer (some ⟨b0,0,none⟩)],.int .i64 ((s.funcs.length:Nat):Int),.int .i64 32,.func (.func 76) #[] #[.pointer (some ⟨b0,0,none⟩)]] 86) =>
    show GrpAt w b (gsOf s) from by
      intro i hi
      have l1:=slx_len h.pr
      have l2:=slx_len h.gl
      have l3:=slx_len h.ar
      have l4:=slx_len h.ch
      have l5:=slx_len h.fn
      have hi5:i=0 ∨ i=1 ∨ i=2 ∨ i=3 ∨ i=4:=by unfold gsOf at hi;simp at hi;omega
      rcases hi5 with rfl | rfl | rfl | rfl | rfl
      · exact ⟨_,_,hcs.cell (j:=0) rfl,hcs.cell (j:=1) rfl,hcs.cell (j:=2) rfl,E1,by show s.principals.length≤_;omega,by show 64≤64;omega,fun k hk w' hb=>group1_p h (hC.trans (below_cle (bl_tr hw hb))) b0 (i0.le hb) k hk⟩
      · exact ⟨_,_,hcs.cell (j:=3) rfl,hcs.cell (j:=4) rfl,hcs.cell (j:=5) rfl,E2,by show s.globals.length≤_;omega,by show 32≤64;omega,fun k hk w' hb=>group2_p h (hC.trans (below_cle (bl_tr hw hb))) b0 (i0.le hb) k hk⟩
      · exact ⟨_,_,hcs.cell (j:=6) rfl,hcs.cell (j:=7) rfl,hcs.cell (j:=8) rfl,E3,by show s.arrays.length≤_;omega,by show 16≤64;omega,fun k hk w' hb=>group3_p h (hC.trans (below_cle (bl_tr hw hb))) b0 (i0.le hb) k hk⟩
      · exact ⟨_,_,hcs.cell (j:=9) rfl,hcs.cell (j:=10) rfl,hcs.cell (j:=11) rfl,E4,by show s.channels.length≤_;omega,by show 16≤64;omega,fun k hk w' hb=>group4_p h (hC.trans (below_cle (bl_tr hw hb))) b0 (i0.le hb) k hk⟩
      · exact ⟨_,_,hcs.cell (j:=12) rfl,hcs.cell (j:=13) rfl,hcs.cell (j:=14) rfl,E5,by show s.funcs.length≤_;omega,by show 32≤64;omega,fun k hk w' hb=>group5_p h (hC.trans (below_cle (bl_tr hw hb))) b0 (i0.le hb) k hk⟩)
  clear h hC E1 E2 E3 E4 E5
  unfold srV at HALL ⊢
  generalize gsOf s=G at *
  generalize s.principals.length=n1 at *
  generalize s.globals.length=n2 at *
  generalize s.arrays.length=n3 at *
  generalize s.channels.length=n4 at *
  generalize s.funcs.length=n5 at *
  go_enter Tryz.func36,Tryz.ntmps36
  go_wp2
  go_ret
  refine ⟨_,rfl,by repeat (first | exact Below.refl _ _ | refine bl_al ?_ _ | refine bl_dr ?_),HALL.out _ _ W.heap.size #[] (by repeat (first | exact Below.refl _ _ | refine bl_al ?_ _ | refine bl_dr ?_)) ?_ ?_⟩
  · exact (InB.new _ _ _).le (bl_al (Below.refl _ _) _)
  · exact InB.new' _ _ (by simp)
end
end Go.Proofs.YtlpdjfimefjmcaaGreatDoor
namespace Go.Proofs.YtlpdjfimefjmcaaGreatDoor
open Go Go.RowKit Go.Proofs.Mm
theorem grpsF_at {gs:List (Nat × Nat × (Nat→Nat))} {i base:Nat} (hi:i<gs.length):grpsF (gs.drop i) base=orO (grpF gs[i].2.1 gs[i].2.2 base gs[i].1 0) (grpsF (gs.drop (i+1)) (base+gs[i].1)):=by
  rw [List.drop_eq_getElem_cons hi,grpsF]
theorem grpsF_end {gs:List (Nat × Nat × (Nat→Nat))} {i base:Nat} (hi:gs.length≤i):grpsF (gs.drop i) base=none:=by
  rw [List.drop_of_length_le hi];rfl
theorem grpF_many {most:Nat} {e:Nat→Nat} {base n k:Nat} (hk:k<n) (h:k=most):grpF most e base (n - k) k=some (base+k,74):=by
  obtain ⟨m,hm⟩:∃ m,n - k=m+1:=⟨n - k - 1,by omega⟩
  rw [hm,grpF,if_pos h]
theorem grpF_bad {most:Nat} {e:Nat→Nat} {base n k:Nat} (hk:k<n) (h:¬ k=most) (he:¬ e k=0):grpF most e base (n - k) k=some (base+k,e k):=by
  obtain ⟨m,hm⟩:∃ m,n - k=m+1:=⟨n - k - 1,by omega⟩
  rw [hm,grpF,if_neg h,if_neg he]
theorem grpF_next {most:Nat} {e:Nat→Nat} {base n k:Nat} (hk:k<n) (h:¬ k=most) (he:e k=0):grpF most e base (n - k) k=grpF most e base (n - (k+1)) (k+1):=by
  obtain ⟨m,hm⟩:∃ m,n - k=m+1:=⟨n - k - 1,by omega⟩
  rw [hm,grpF,if_neg h,if_pos he,show n - (k+1)=m by omega]
theorem grpF_end {most:Nat} {e:Nat→Nat} {base n:Nat}:grpF most e base (n - n) n=none:=by rw [Nat.sub_self];rfl
def daV:Option (Nat × Nat)→Value
  | some (a,e)=>.tuple #[.int .i64 (a:Int),.int .i64 (e:Int)]
  | none=>.tuple #[.int .i64 0,.int .i64 0]
section
variable {lt:Bool} {C:Cl} {W:World} {s:SoZ} {q1:Option Addr} {c1:Nat} {q2:Option Addr} {c2:Nat} {q3:Option Addr} {c3:Nat} {q4:Option Addr} {c4:Nat} {q5:Option Addr} {c5:Nat}
set_option maxRecDepth 100000 in
set_option maxHeartbeats 8000000 in
theorem declarations_p (h:SrcO lt C s q1 c1 q2 c2 q3 c3 q4 c4 q5 c5) (hC:CLe C (wC W)) :
    Calls Tryz.prog 17 #[.agg (srV s q1 c1 q2 c2 q3 c3 q4 c4 q5 c5)] W (RetB (daV (declsZE s)) W):=by
  have HG:=Lib.hid (fun (w:World) (hb:Below W.heap.size W w)=>groups_p (W:=w) h (hC.trans (below_cle hb)))
  rw [decls_gs]
  have hgl:(gsOf s).length=5:=rfl
  clear h hC
  unfold srV at HG ⊢
  generalize gsOf s=G at *
  have HGL:=Lib.hid hgl
  generalize s.principals.length=n1 at *
  generalize s.globals.length=n2 at *
  generalize s.arrays.length=n3 at *
  generalize s.channels.length=n4 at *
  generalize s.funcs.length=n5 at *
  clear hgl
  have HR:=Lib.hid (show grpsF G 0=grpsF (G.drop 0) 0 from rfl)
  generalize grpsF G 0=R at *
  go_enter Tryz.func17,Tryz.ntmps17
  go_wp2_with fail
  go_at_call 36
  refine (HG.out _ (bl_al (Below.refl _ _) _)).mono ?_
  rintro e w0 ⟨b,rfl,hb0,hgr⟩
  have HB0:=Lib.hid (bl_tr (bl_al (Below.refl W.heap.size W) _) hb0)
  have HGR:=Lib.hid hgr
  clear hb0 hgr HG
  go_wp2_with fail
  go_loopw [4,12] (fun a i wr=>∃ j base:Nat,j≤5∧i=.int .i64 (j:Nat)∧base≤j * 64∧a=.int .i64 (base:Nat)∧Hid (Below w0.heap.size w0 wr)∧Hid (R=grpsF (G.drop j) base)) (fun _ i _=>5 - (intOf i).toNat)
  case atStart=>exact ⟨0,0,by omega,rfl,by omega,rfl,Lib.hid (Below.refl _ _),HR⟩
  case round =>
    obtain ⟨j,base,hj,rfl,hbs,rfl,HB,HJ⟩:=hrel
    by_cases hlt:j<5
    · have hjl:j<G.length:=by rw [HGL.out];exact hlt
      have HJ2:=Lib.hid (HJ.out.trans (grpsF_at hjl))
      obtain ⟨K,ca,e0,e1,e2,ek,hn,hm,hc⟩:=(HGR.out.le HB.out) j hjl
      generalize G[j]=x at *
      obtain ⟨n,most,ef⟩:=x
      simp only at e0 e1 e2 hn hm hc HJ2
      have HC:=Lib.hid hc
      unfold Ent at ek
      have hji:(j:Int)<5:=by omega
      have hblt:b<wr.heap.size:=cell_lt e0
      clear hc hjl
      obtain ⟨bx,hbx⟩:∃ bx,wr.heap.size=bx:=⟨_,rfl⟩
      have hrow0:InB (wr.alloc (.cells #[.int .i64 (n:Int),.int .i64 (most:Int),.func (.func K) #[] ca] 86)) bx #[.int .i64 (n:Int),.int .i64 (most:Int),.func (.func K) #[] ca] 86:=InB.new' _ _ hbx
      have HB2:=Lib.hid (show Below wr.heap.size wr (wr.alloc (.cells #[.int .i64 (n:Int),.int .i64 (most:Int),.func (.func K) #[] ca] 86)) from bl_al (Below.refl _ _) _)
      have HRW:=Lib.hid hrow0
      have HBX:=Lib.hid hbx
      clear hrow0
      go_wp2_with fail
      try rw [HBX.out]
      generalize wr.alloc (.cells #[.int .i64 (n:Int),.int .i64 (most:Int),.func (.func K) #[] ca] 86)=w2 at *
      clear hbx e0 e1 e2 hblt
      generalize wr=wo at *
      have HJI:=Lib.hid hji
      have HJJ:=Lib.hid hlt
      have HBS:=Lib.hid hbs
      go_loopw [4,18] (fun a i wi=>∃ k:Nat,k≤n∧k≤most∧i=.int .i64 (k:Nat)∧a=.int .i64 ((base+k:Nat):Int)∧Hid (Below w2.heap.size w2 wi)∧Hid (grpF most ef base n 0=grpF most ef base (n - k) k)) (fun _ i _=>n - (intOf i).toNat)
      case atStart=>exact ⟨0,by omega,by omega,rfl,rfl,Lib.hid (Below.refl _ _),Lib.hid rfl⟩
      case round =>
        obtain ⟨k,hk,hkm,rfl,rfl,HBI,HT⟩:=hrel
        have g0:=(HRW.out.le HBI.out).cell (j:=0) rfl
        have g1:=(HRW.out.le HBI.out).cell (j:=1) rfl
        have g2:=(HRW.out.le HBI.out).cell (j:=2) rfl
        have hxl:=(HRW.out.le HBI.out).lt
        have HBW:=Lib.hid (bl_tr HB.out (bl_tr HB2.out HBI.out))
        by_cases hkn:k<n
        · have hki:(k:Int)<(n:Int):=by omega
          by_cases hko:k=most
          · have HX:=Lib.hid (HT.out.trans (grpF_many hkn hko))
            have hke:((k:Int) == (most:Int))=true:=by rw [beq_iff_eq];omega
            have HR2:=Lib.hid (show R=some (base+k,74) by rw [HJ2.out,HX.out];rfl)
            clear hko
            go_wp2
            go_ret2
            exact ⟨by rw [HR2.out];rfl,bl_tr HB0.out HBW.out⟩
          · have hke:((k:Int) == (most:Int))=false:=by rw [beq_eq_false_iff_ne];omega
            have HC2:=Lib.hid (HC.out k hkn wr (bl_tr HB2.out HBI.out))
            have HKN:=Lib.hid (And.intro hkn hko)
            go_wp2_with fail
            refine HC2.out.mono ?_
            rintro e w3 ⟨qe,ce,es,rfl,hb3,hrow,hle,hfe⟩
            have HFI:=Lib.hid (first_p (W:=w3) es hle (c:=ce) hrow)
            have HB3:=Lib.hid (bl_tr HBI.out hb3)
            have HFE:=Lib.hid hfe
            clear hb3 hrow hle hfe HC2
            generalize es.length=m at *
            generalize fst0 es=x at *
            go_wp2_with fail
            go_at_call 37
            refine HFI.out.mono ?_
            rintro e w4 ⟨rfl,hb4⟩
            have HB4:=Lib.hid (bl_tr HB3.out hb4)
            clear hb4 HFI g0 g1 g2 hxl
            by_cases hx:x=0
            · have HT2:=Lib.hid (HT.out.trans (grpF_next HKN.out.1 HKN.out.2 (by rw [← HFE.out];exact hx)))
              subst hx
              go_wp2
              exact ⟨⟨k+1,by omega,by omega,by go_num,by go_num,HB4,HT2⟩,by simp [intOf];omega⟩
            · have HX:=Lib.hid (HT.out.trans (grpF_bad HKN.out.1 HKN.out.2 (by rw [← HFE.out];exact hx)))
              have HR2:=Lib.hid (show R=some (base+k,x) by rw [HJ2.out,HX.out,HFE.out];rfl)
              have hne:(((x:Nat):Int) != 0)=true:=by simpa using hx
              have hne2:(((x:Nat):Int) == 0)=false:=by simpa using hx
              clear hx
              go_wp2
              go_ret2
              exact ⟨by rw [HR2.out];rfl,bl_tr HB0.out (bl_tr HB.out (bl_tr HB2.out HB4.out))⟩
        · obtain rfl:k=n:=by omega
          have HX:=Lib.hid (HT.out.trans grpF_end)
          have HR2:=Lib.hid (show R=grpsF (G.drop (j+1)) (base+k) by rw [HJ2.out,HX.out];rfl)
          clear g0 g1 g2
          go_wp2
          exact ⟨⟨j+1,base+k,by omega,by go_num,by omega,rfl,HBW,HR2⟩,by simp [intOf];omega⟩
    · obtain rfl:j=5:=by omega
      have HR2:=Lib.hid (HJ.out.trans (grpsF_end (by rw [HGL.out];exact Nat.le_refl _)))
      go_wp2
      go_ret2
      exact ⟨by rw [HR2.out];rfl,bl_tr HB0.out HB.out⟩
end
end Go.Proofs.YtlpdjfimefjmcaaGreatDoor
